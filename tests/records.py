"""What points 213 to 215 tell of lists of records, in the plainest words, for several tests."""

from oathledger.blocks import is_block
from oathledger.requests import is_command

MOST = 10 ** 12


def finals_of(records):
    return [record[1] for record in records if record[0] == "final"]


def last_final_epoch(records):
    return finals_of(records)[-1][0] if finals_of(records) else 0


def settled_number(records, client):
    numbers = [0]
    for each in finals_of(records):
        numbers.extend([command[1] for command in each[3] if command[0] == client])
    return max(numbers)


def valid_next(records, record):
    """Whether a tuple that begins with a kind fits to the records ahead of it, as point 213 tells it."""
    kind = record[0]
    if kind == "mark":
        return not records and all(type(part) is int and 0 <= part <= MOST for part in record[1:])
    if kind == "final":
        if not is_block(record[1]):
            return False
        return record[1][2] == 1 + len(finals_of(records)) and record[1][1] == last_final_epoch(records)
    if kind == "state":
        heights = [0] + [each[1] for each in records if each[0] == "state"]
        return max(heights) <= record[1] <= len(finals_of(records))
    if kind == "vouch":
        if not is_command(record[1]):
            return False
        client, number, _ = record[1]
        numbers = [each[1][1] for each in records if each[0] == "vouch" and each[1][0] == client]
        return number > max([settled_number(records, client)] + numbers)
    if not is_block(record[1]):
        return False
    epoch = record[1][0]
    if kind == "vote":
        epochs = [each[1][0] for each in records if each[0] == "vote"] + [each[1] for each in records if each[0] == "mark"]
        return epoch > max([last_final_epoch(records)] + epochs)
    epochs = [each[1][0] for each in records if each[0] == "ready"]
    return epoch > last_final_epoch(records) and epoch not in epochs


def meaning(records):
    """What a valid list of records says, as point 214 tells it."""
    blocks = {kind: [each[1] for each in records if each[0] == kind] for kind in ("final", "vote", "ready")}
    states = [each[1:] for each in records if each[0] == "state"]
    vouches = {each[1][0]: each[1] for each in records if each[0] == "vouch"}
    open_vouches = [vouch for vouch in vouches.values() if vouch[1] > settled_number(records, vouch[0])]
    marks = [each for each in records if each[0] == "mark"]
    votes = blocks["vote"]
    last = votes[-1][0] if votes else (marks[0][1] if marks else 0)
    floor = max([0] + [mark[2] for mark in marks] + [vote[2] - 1 for vote in votes])
    return (blocks["final"], states[-1] if states else None, sorted(open_vouches), votes, blocks["ready"], last, floor)


def told(memory):
    """What a memory tells."""
    return (memory.finals(), memory.checkpoint(), memory.vouches(), memory.votes(), memory.readies(), memory.last_vote(),
            memory.floor())


def reduction(records):
    """The reduced list, as point 215 tells it."""
    finals, checkpoint, vouches, votes, readies, _, _ = meaning(records)
    settled = last_final_epoch(records)
    pairs = [(each[1], each[2]) for each in records if each[0] == "mark"]
    pairs.extend([(vote[0], vote[2] - 1) for vote in votes if vote[0] <= settled])
    reduced = []
    if pairs:
        reduced.append(("mark", max([pair[0] for pair in pairs]), max([pair[1] for pair in pairs])))
    reduced.extend([("final", each) for each in finals])
    if checkpoint is not None:
        reduced.append(("state",) + checkpoint)
    reduced.extend([("vote", each) for each in votes if each[0] > settled])
    reduced.extend([("ready", each) for each in readies if each[0] > settled])
    return reduced + [("vouch", vouch) for vouch in vouches]


def random_record(rng, records):
    """A record that may fit to the records ahead of it."""
    height = len(finals_of(records)) + 1
    last = last_final_epoch(records)
    kind = rng.choice(["mark", "final", "final", "state", "vouch", "vote", "ready"])
    if kind == "mark":
        return (kind, rng.randrange(12), rng.randrange(12))
    if kind == "state":
        return (kind, rng.randrange(height + 1), rng.choice(["", "a", "t0:"]))
    commands = tuple((client, rng.randrange(1, 6), rng.choice("ab")) for client in (-3, -2, -1) if rng.randrange(3) == 0)
    if kind == "vouch":
        return (kind, (rng.choice([-3, -2, -1]), rng.randrange(1, 8), rng.choice("ab")))
    if kind == "final" and rng.randrange(5):
        return (kind, (last + rng.randrange(1, 4), last, height, commands))
    epoch = rng.randrange(1, 16)
    parent = rng.randrange(epoch)
    return (kind, (epoch, parent, rng.randrange(2, parent + 2) if parent else 1, commands))
