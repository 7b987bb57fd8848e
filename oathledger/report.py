"""Histories as lines of text, and what the judge says of them (points 665 to 669)."""

from oathledger.errors import BadSchedule, BadText
from oathledger.executor import State, execute
from oathledger.history import History, is_event
from oathledger.judge import judge
from oathledger.texts import decode, encode, integer_of

# The greatest number, 10 ** 12, has 13 digits.
MOST_DIGITS_OF_LINE = 13
# The number of parts of the line of each kind of event; the last part is the rest of the line.
PARTS = {"call": 5, "accept": 5, "final": 4, "crash": 3}


def event_line(event):
    """Return the line of an event."""
    if not is_event(event):
        raise BadSchedule(0, "event")
    parts = [event[1], event[0]] + list(event[2:])
    if event[0] == "final":
        parts[3] = encode(parts[3])
    return " ".join([str(part) for part in parts])


def event_of(line):
    """Return the event with this line."""
    words = line.split(" ", 2)
    if len(words) < 3 or words[1] not in PARTS:
        raise BadSchedule(0, "line")
    kind = words[1]
    words = line.split(" ", PARTS[kind] - 1)
    if len(words) < PARTS[kind]:
        raise BadSchedule(0, "line")
    event = (kind, integer_of(words[0], MOST_DIGITS_OF_LINE), integer_of(words[2], MOST_DIGITS_OF_LINE))
    if kind == "final":
        event = event + (block_of(words[3]),)
    elif kind != "crash":
        event = event + (integer_of(words[3], MOST_DIGITS_OF_LINE), words[4])
    if not is_event(event):
        raise BadSchedule(0, "line")
    return event


def block_of(word):
    """Return the value of a canonical text, or None; whether it is a block is asked later."""
    try:
        return decode(word)
    except BadText:
        return None


def history_text(history):
    """Return the lines of the events, each with a newline behind it."""
    return "".join([event_line(event) + "\n" for event in history.events()])


def history_of(text):
    """Return the history with this text."""
    lines = text.split("\n")
    if lines[-1] != "":
        raise BadSchedule(len(lines), "newline")
    history = History()
    for number, line in enumerate(lines[:-1], start=1):
        add_line(history, number, line)
    return history


def add_line(history, number, line):
    """Add the event of the line with this number."""
    try:
        history.add(event_of(line))
    except BadSchedule as fault:
        raise BadSchedule(number, fault.reason) from None


def ledger_lines(ledger):
    """Return the lines of the commands of a ledger, with their answers."""
    state = State()
    lines = []
    for epoch, _, height, commands in ledger:
        if len(commands) == 0:
            lines.append(f"{height} {epoch} empty")
        for command in commands:
            answer = execute(state, command)
            lines.append(f"{height} {epoch} {command[0]} {command[1]} {answer}")
    return lines


def summary(history, ledgers):
    """Return lines with what there is in the history and in the ledgers, and with the faults."""
    lines = [
        f"calls {len(history.calls())}",
        f"accepted {len(history.accepted())}",
        f"open {len(history.open_calls())}",
    ]
    for index, ledger in enumerate(ledgers):
        lines.append(f"ledger {index} {len(ledger)}")
    faults = judge(history, ledgers)
    for fault in faults:
        lines.append("fault " + encode(fault))
    if len(faults) == 0:
        lines.append("sound")
    return lines
