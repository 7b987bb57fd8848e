"""The judge, which compares histories and ledgers with the promises of the service (points 650 and 654 to 661)."""

from oathledger.blocks import GENESIS, follows
from oathledger.executor import State, execute


def ledger_commands(ledger):
    """Return the list of the commands of a ledger."""
    commands = []
    for block in ledger:
        commands.extend(block[3])
    return commands


def places_of(ledger):
    """Return a dict from the clients and numbers of the commands of a ledger to their places."""
    places = {}
    for place, command in enumerate(ledger_commands(ledger)):
        places.setdefault(command[:2], place)
    return places


def agreement_fault(ledgers):
    """Return the first two ledgers that do not agree, with the height where they part."""
    for first, ledger in enumerate(ledgers):
        for second in range(first + 1, len(ledgers)):
            height = parting(ledger, ledgers[second])
            if height is not None:
                return "agreement", first, second, height
    return None


def parting(ledger, other):
    """Return the least height at which both ledgers have a block and the blocks differ, or None."""
    for index, (block, against) in enumerate(zip(ledger, other)):
        if block != against:
            return index + 1
    return None


def chain_fault(ledger):
    """Return the first block that does not follow the one before it."""
    before = GENESIS
    for block in ledger:
        if not follows(block, before):
            return "chain", block[2]
        before = block
    return None


def validity_fault(ledger, calls):
    """Return the first command that was not called, or that does not come behind those of its client before it."""
    called = {command: True for command in calls}
    greatest = {}
    for place, command in enumerate(ledger_commands(ledger)):
        client, number, _ = command
        if command not in called:
            return "unknown", place
        if number <= greatest.get(client, 0):
            return "again", place
        greatest[client] = number
    return None


def answer_fault(ledger, accepted):
    """Return the first accepted answer that the ledger does not give."""
    state = State()
    answers = {}
    for command in ledger_commands(ledger):
        answers.setdefault(command[:2], execute(state, command))
    for client, number, answer in accepted:
        if (client, number) not in answers:
            return "missing", client, number
        if answers[(client, number)] != answer:
            return "answer", client, number
    return None


def order_fault(ledger, events):
    """Return the first call behind an accept of a command that the ledger has at a greater place."""
    places = places_of(ledger)
    # The accepted command of the greatest place so far.
    latest = None
    for event in events:
        if event[0] not in ("call", "accept") or event[2:4] not in places:
            continue
        name = event[2:4]
        if event[0] == "accept":
            if latest is None or places[name] > places[latest]:
                latest = name
        elif latest is not None and places[latest] > places[name]:
            return ("order",) + latest + name
    return None


def lost_fault(events, ledger):
    """Return the first block that a machine had as final and that the ledger does not have."""
    for event in events:
        if event[0] == "final":
            machine, block = event[2:]
            if block not in ledger[block[2] - 1:block[2]]:
                return "lost", machine, block[2]
    return None


def judge(history, ledgers):
    """Return the list of all faults that the checks find."""
    ledger = longest(ledgers)
    faults = [
        agreement_fault(ledgers),
        chain_fault(ledger),
        validity_fault(ledger, history.calls()),
        answer_fault(ledger, history.accepted()),
        order_fault(ledger, history.events()),
        lost_fault(history.events(), ledger),
    ]
    return [fault for fault in faults if fault is not None]


def longest(ledgers):
    """Return the first ledger of the greatest length, or an empty one."""
    found = []
    for ledger in ledgers:
        if len(ledger) > len(found):
            found = ledger
    return found
