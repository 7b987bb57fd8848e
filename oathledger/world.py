"""A world of machines, clients and a network, which runs step by step (points 600, 606 to 613 and 616)."""

from oathledger.acts import check_act, survivors
from oathledger.client import Client
from oathledger.disk import Disk
from oathledger.errors import BadLetter, BadSchedule, DiskCrashed, JournalFull
from oathledger.groups import Group
from oathledger.history import History
from oathledger.letters import check_letter
from oathledger.limits import MOST_CLIENTS, MOST_FAULTS, MOST_TEXT
from oathledger.machine import Machine
from oathledger.net import Net
from oathledger.texts import is_integer, is_short

LEAST_SECTORS = 4
MOST_SECTORS = 10000


class World:
    """Honest machines with their disks, clients, and what is in flight between them."""

    def __init__(self, faults, liars, clients, sectors):
        check_sizes(faults, liars, clients, sectors)
        self._group = Group(faults)
        self._liars = list(liars)
        self._honest = [number for number in self._group.members() if number not in self._liars]
        self._names = [-1 - index for index in range(clients)]
        self._clients = {name: Client(self._group, name) for name in self._names}
        self._disks = {number: Disk(sectors) for number in self._honest}
        # The honest machines by their numbers; None stands for a machine that is down.
        self._machines = {}
        self._net = Net()
        self._history = History()
        self._time = 0
        for number in self._honest:
            self._come_up(number)

    def act(self, step):
        """Perform an act."""
        check_act(step)
        match step:
            case ("tick", count):
                self._tick(count)
            case ("submit", name, text):
                self._submit(name, text)
            case ("deliver", position):
                self._deliver(position)
            case ("round",):
                self._deliver_round()
            case ("calm", count):
                self._calm(count)
            case ("lose", position):
                self._net.take(position)
            case ("double", position):
                self._net.double(position)
            case ("move", position):
                self._net.move(position)
            case ("say", sender, receiver, letter):
                self._say(sender, receiver, letter)
            case ("arm", number, count):
                self._arm(number, count)
            case ("crash", number):
                self._crash(number)
            case ("restart", number, keep):
                self._restart(number, keep)

    def time(self):
        """Return the time."""
        return self._time

    def ledger(self, machine):
        """Return a new list of the blocks of the ledger of an honest machine."""
        self._check_honest(machine)
        return self._history.ledger(machine)

    def honest(self):
        """Return the list of the honest machines, in ascending order."""
        return list(self._honest)

    def is_up(self, machine):
        """Tell whether the honest machine is up."""
        self._check_honest(machine)
        return self._machines[machine] is not None

    def history(self):
        """Return a new history with the events."""
        history = History()
        for event in self._history.events():
            history.add(event)
        return history

    def packets(self):
        """Return a new list of the packets in flight."""
        return self._net.packets()

    def client(self, name):
        """Return the client with this name."""
        self._check_client(name)
        return self._clients[name]

    def _tick(self, count):
        """Let the time go on."""
        for _ in range(count):
            self._time = self._time + 1
            for number in self._honest:
                if self._machines[number] is not None:
                    self._tell_time(number)
            for name in self._names:
                self._send(name, self._clients[name].tick())

    def _calm(self, count):
        """Let the time go on, and deliver everything in flight after each tick."""
        for _ in range(count):
            self._tick(1)
            self._deliver_round()

    def _submit(self, name, text):
        """Let a client have another command."""
        self._check_client(name)
        if not is_short(text, MOST_TEXT):
            raise BadSchedule(0, "text")
        client = self._clients[name]
        before = client.pending()
        letters = client.submit(text)
        self._client_returned(name, before, letters)

    def _deliver(self, position):
        """Deliver the packet at the position."""
        sender, receiver, letter = self._net.take(position)
        if receiver in self._clients:
            client = self._clients[receiver]
            before = client.pending()
            letters = client.receive(sender, letter)
            self._client_returned(receiver, before, letters)
        elif self._machines.get(receiver) is not None:
            self._hand_over(sender, receiver, letter)

    def _deliver_round(self):
        """Deliver as many packets as are in flight now."""
        for _ in range(self._net.count()):
            self._deliver(0)

    def _say(self, sender, receiver, letter):
        """Let a faulty machine send a letter."""
        if not self._group.is_member(sender) or sender not in self._liars:
            raise BadSchedule(0, "machine")
        try:
            check_letter(self._group, sender, receiver, letter)
        except BadLetter:
            raise BadSchedule(0, "letter") from None
        if receiver < 0 and receiver not in self._clients:
            raise BadSchedule(0, "letter")
        self._net.send(sender, receiver, letter)

    def _arm(self, number, count):
        """Let the disk of a machine crash after that many operations."""
        self._check_state(number, True)
        self._disks[number].arm(count)

    def _crash(self, number):
        """Let a machine go down."""
        self._check_state(number, True)
        self._go_down(number)

    def _restart(self, number, keep):
        """Let a machine come up again."""
        self._check_state(number, False)
        disk = self._disks[number]
        disk.crash(survivors(keep, len(disk.pending())))
        self._come_up(number)

    def _come_up(self, number):
        """Make a machine on its disk, and tell it the time."""
        self._machines[number] = Machine(self._group, number, self._disks[number])
        self._tell_time(number)

    def _go_down(self, number):
        """Lose a machine, but for its disk."""
        self._machines[number] = None
        self._history.add(("crash", self._time, number))

    def _tell_time(self, number):
        """Tell a machine the time."""
        try:
            letters = self._machines[number].tick(self._time)
        except (DiskCrashed, JournalFull):
            self._go_down(number)
            return
        self._machine_returned(number, letters)

    def _hand_over(self, sender, number, letter):
        """Hand a letter over to a machine that is up."""
        try:
            letters = self._machines[number].receive(sender, letter)
        except (DiskCrashed, JournalFull):
            self._go_down(number)
            return
        self._machine_returned(number, letters)

    def _machine_returned(self, number, letters):
        """Note the new blocks of the ledger of a machine whose call has returned, and send its letters."""
        noted = len(self._history.ledger(number))
        for block in self._machines[number].ledger()[noted:]:
            self._history.add(("final", self._time, number, block))
        self._send(number, letters)

    def _client_returned(self, name, before, letters):
        """Note what has happened to the command that was pending before a call of a client, and send its letters."""
        client = self._clients[name]
        pending = client.pending()
        if pending != before:
            if before is not None:
                number, _, answer = client.accepted()[-1]
                self._history.add(("accept", self._time, name, number, answer))
            if pending is not None:
                self._history.add(("call", self._time, name, pending[0], pending[1]))
        self._send(name, letters)

    def _send(self, sender, letters):
        """Send letters in the order of the list."""
        for receiver, letter in letters:
            self._net.send(sender, receiver, letter)

    def _check_client(self, name):
        """Raise BadSchedule if the world has no such client."""
        if not is_integer(name, -len(self._names), -1):
            raise BadSchedule(0, "client")

    def _check_honest(self, machine):
        """Raise BadSchedule if the machine is not an honest one."""
        if not self._group.is_member(machine) or machine in self._liars:
            raise BadSchedule(0, "machine")

    def _check_state(self, machine, up):
        """Raise BadSchedule if the machine is not an honest one, or if it is not up, or not down, as it must be."""
        if self.is_up(machine) != up:
            raise BadSchedule(0, "state")


def check_sizes(faults, liars, clients, sectors):
    """Raise BadSchedule if there is no such world."""
    if not is_integer(faults, 0, MOST_FAULTS):
        raise BadSchedule(0, "faults")
    if not are_liars(liars, Group(faults)):
        raise BadSchedule(0, "liars")
    if not is_integer(clients, 0, MOST_CLIENTS):
        raise BadSchedule(0, "clients")
    if not is_integer(sectors, LEAST_SECTORS, MOST_SECTORS):
        raise BadSchedule(0, "sectors")


def are_liars(value, group):
    """Tell whether the value is a list of strictly ascending members that the group tolerates."""
    if not isinstance(value, list) or len(value) > group.faults:
        return False
    if not all([group.is_member(number) for number in value]):
        return False
    return all([before < after for before, after in zip(value, value[1:])])
