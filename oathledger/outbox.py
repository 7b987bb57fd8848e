"""The letters that a machine sends, with their receivers (points 514, 516 and 518)."""


def to_others(group, me, letter):
    """Return the letter for each other member, in ascending order of the receiver."""
    return [(receiver, letter) for receiver in group.members() if receiver != me]


def repeats(group, me, vouches, votes, readies, height):
    """Return the letters that begin an epoch: what the machine sent before, and the height of its ledger."""
    letters = [("vouch", command) for command in vouches]
    letters.extend([("vote", block) for block in votes])
    letters.extend([("ready", block) for block in readies])
    letters.append(("claim", height))
    sent = []
    for letter in letters:
        sent.extend(to_others(group, me, letter))
    return sent


def gives(receiver, blocks, height):
    """Return a letter to the receiver for each block above the height."""
    return [(receiver, ("give", block[2], block)) for block in blocks if block[2] > height]


def answers(rows):
    """Return a letter to the client for each row of a client, a number and an answer."""
    return [(client, ("answer", number, answer)) for client, number, answer in rows]
