"""What clients and machines of a run did, in the order in which it happened (points 651 to 653)."""

from oathledger.blocks import is_block
from oathledger.errors import BadSchedule
from oathledger.limits import MOST_ANSWER, MOST_FAULTS, MOST_NUMBER
from oathledger.requests import is_client, is_command, is_number
from oathledger.texts import is_integer, is_short


def holds_call(parts):
    """Tell whether these are the parts of a call, behind its time."""
    return is_command(parts)


def holds_accept(parts):
    """Tell whether these are the parts of an accept, behind its time."""
    if len(parts) != 3:
        return False
    client, number, answer = parts
    return is_client(client) and is_number(number) and is_short(answer, MOST_ANSWER)


def holds_final(parts):
    """Tell whether these are the parts of a final, behind its time."""
    return len(parts) == 2 and is_machine(parts[0]) and is_block(parts[1])


def holds_crash(parts):
    """Tell whether these are the parts of a crash, behind its time."""
    return len(parts) == 1 and is_machine(parts[0])


def is_machine(value):
    """Tell whether the value is a machine of the greatest group."""
    return is_integer(value, 0, 3 * MOST_FAULTS)


FORMS = {"call": holds_call, "accept": holds_accept, "final": holds_final, "crash": holds_crash}


def is_event(value):
    """Tell whether the value is an event."""
    if not isinstance(value, tuple) or len(value) < 2:
        return False
    if not isinstance(value[0], str) or value[0] not in FORMS or not is_integer(value[1], 0, MOST_NUMBER):
        return False
    holds = FORMS[value[0]]
    return holds(value[2:])


class History:
    """A sequence of events that fit to each other."""

    def __init__(self):
        self._events = []
        self._calls = []
        self._accepted = []
        # The number of the last call of each client, and its command while the answer is not accepted.
        self._called = {}
        self._open = {}
        # The ledgers of the machines that have an event.
        self._ledgers = {}

    def add(self, event):
        """Append an event."""
        if not is_event(event):
            raise BadSchedule(0, "event")
        if len(self._events) > 0 and event[1] < self._events[-1][1]:
            raise BadSchedule(0, "time")
        match event:
            case ("call", _, client, number, text):
                self._add_call((client, number, text))
            case ("accept", _, client, number, answer):
                self._add_accept((client, number, answer))
            case ("final", _, machine, block):
                self._add_final(machine, block)
            case ("crash", _, machine):
                self._ledgers[machine] = []
        self._events.append(event)

    def events(self):
        """Return a new list of the events."""
        return list(self._events)

    def calls(self):
        """Return the commands that were called, in the order of their calls."""
        return list(self._calls)

    def accepted(self):
        """Return the clients, numbers and answers, in the order of the accepts."""
        return list(self._accepted)

    def open_calls(self):
        """Return the commands whose answer has not been accepted, in ascending order of the client."""
        return [self._open[client] for client in sorted(self._open)]

    def ledger(self, machine):
        """Return the blocks that became final for the machine since its last crash."""
        return list(self._ledgers.get(machine, []))

    def machines(self):
        """Return the machines with a final or a crash, in ascending order."""
        return sorted(self._ledgers)

    def _add_call(self, command):
        """Take a call: the next one of a client that waits for no answer."""
        client, number, _ = command
        if client in self._open or number != self._called.get(client, 0) + 1:
            raise BadSchedule(0, "call")
        self._calls.append(command)
        self._called[client] = number
        self._open[client] = command

    def _add_accept(self, row):
        """Take an accept: that of the open call of the client."""
        client, number, _ = row
        if client not in self._open or number != self._open[client][1]:
            raise BadSchedule(0, "accept")
        self._accepted.append(row)
        del self._open[client]

    def _add_final(self, machine, block):
        """Take a final: the block on top of the ledger of the machine."""
        blocks = self._ledgers.get(machine, [])
        if block[2] != len(blocks) + 1:
            raise BadSchedule(0, "final")
        # Only a machine that has an event has a ledger, so a final that does not fit leaves none.
        blocks.append(block)
        self._ledgers[machine] = blocks
