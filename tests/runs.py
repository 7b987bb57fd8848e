"""Groups of machines with clients, liars and a bad network, which are held against point 5 after each step."""

from oathledger.client import Client
from oathledger.disk import Disk
from oathledger.errors import DiskCrashed
from oathledger.executor import State, execute
from oathledger.groups import Group
from oathledger.machine import Machine
from tests.liars import Liars

TEXTS = ["open ann;issue ann 100", "open bob", "pay ann bob 3", "put k v", "get k", "balance ann", "no command", "keys a",
         "issue ann 5;burn ann 1", "swap k v w", "", "hold ann bob 2 h", "settle h"]


class Run:
    """A group that runs step by step; each step is checked."""

    def __init__(self, case, rng, faults, liars, clients):
        self.case, self.rng, self.group = case, rng, Group(faults)
        self.honest = [machine for machine in self.group.members() if machine not in liars]
        self.disks = {machine: Disk(1500) for machine in self.honest}
        self.machines = {machine: Machine(self.group, machine, self.disks[machine]) for machine in self.honest}
        self.clients = {name: Client(self.group, name) for name in range(-clients, 0)}
        self.liars = Liars(rng, self.group, liars, list(self.clients))
        # Packets in flight: the tick behind which they were sent, the sender, the receiver and the letter.
        self.packets = []
        self.time = 0
        # What was seen so far: ledgers that were returned, the longest of them with its answers, and what was sent.
        self.ledgers = {machine: [] for machine in self.honest}
        self.longest, self.state, self.answers = [], State(), {}
        self.sent = {}
        self.asked = {}
        self.accepted = 0
        for machine in self.honest:
            self.call(machine, lambda each: each.tick(0))

    def call(self, number, action):
        """Make a call of a machine, if it is up, and check what it leads to."""
        if self.machines[number] is None:
            return
        try:
            letters = action(self.machines[number])
        except DiskCrashed:
            self.machines[number] = None
            return
        self.case.assertEqual(self.disks[number].pending(), [])
        self.check_ledger(number, self.machines[number].ledger())
        for receiver, letter in letters:
            self.check_letter(number, receiver, letter)
            self.liars.watch(letter)
            self.packets.append((self.time, number, receiver, letter))

    def check_ledger(self, number, ledger):
        """The ledger of a machine goes on from what it was, and agrees with all others."""
        before = self.ledgers[number]
        self.case.assertEqual(ledger[:len(before)], before)
        common = min(len(ledger), len(self.longest))
        self.case.assertEqual(ledger[:common], self.longest[:common])
        for each in ledger[common:]:
            self.longest.append(each)
            for command in each[3]:
                self.check_command(command)
        self.ledgers[number] = ledger

    def check_command(self, command):
        """A command of the ledger is the next one of its client, which sent it."""
        client, number, text = command
        self.case.assertEqual(number, self.state.sessions.last(client) + 1)
        self.case.assertEqual(self.asked.get((client, number)), text)
        self.answers[(client, number)] = execute(self.state, command)

    def check_letter(self, sender, receiver, letter):
        """No machine sends two things where it may send one, and all answers are those of the ledger."""
        kind = letter[0]
        self.case.assertNotEqual(receiver, sender)
        if kind == "answer":
            self.case.assertEqual(letter[2], self.answers[(receiver, letter[1])])
            position = [each[:2] for block in self.ledgers[sender] for each in block[3]]
            self.case.assertIn((receiver, letter[1]), position)
        elif kind in ("vote", "ready"):
            known = self.sent.setdefault((sender, kind), {})
            if letter[1][0] not in known and kind == "vote":
                self.case.assertTrue(all(epoch < letter[1][0] for epoch in known))
            self.case.assertEqual(known.setdefault(letter[1][0], letter[1]), letter[1])
        elif kind == "vouch":
            known = self.sent.setdefault((sender, kind), {})
            self.case.assertEqual(known.setdefault(letter[1][:2], letter[1]), letter[1])
        elif kind == "give":
            self.case.assertEqual(self.longest[letter[1] - 1], letter[2])

    def client_sends(self, name, letters):
        """Send the letters of a client, and check what it accepted."""
        client = self.clients[name]
        for number, _, answer in client.accepted():
            self.case.assertEqual(self.answers[(name, number)], answer)
        for receiver, letter in letters:
            self.asked.setdefault((name, letter[1]), letter[2])
            self.packets.append((self.time, name, receiver, letter))

    def submit(self):
        """Let some client have another command."""
        name = self.rng.choice(list(self.clients))
        self.client_sends(name, self.clients[name].submit(self.rng.choice(TEXTS)))

    def tick(self):
        """Let the time go on."""
        self.time += 1
        for number in self.honest:
            self.call(number, lambda each: each.tick(self.time))
        for name in self.clients:
            self.client_sends(name, self.clients[name].tick())

    def deliver(self, position):
        """Deliver a packet."""
        _, sender, receiver, letter = self.packets.pop(position)
        if receiver in self.clients:
            self.client_sends(receiver, self.clients[receiver].receive(sender, letter))
        elif receiver in self.machines:
            self.call(receiver, lambda each: each.receive(sender, letter))

    def lie(self):
        """Let a faulty machine say something, or tell a client something."""
        if not self.liars.names:
            return
        name = self.rng.choice(list(self.clients))
        pending = self.clients[name].pending()
        if pending is not None and self.rng.randrange(12) == 0:
            sender = self.rng.choice(self.liars.names)
            self.packets.append((self.time, sender, name, self.liars.answer(pending[0])))
        elif self.rng.randrange(3) == 0:
            self.lie_together()
        else:
            self.packets.append((self.time,) + self.liars.words(self.time // 5))

    def lie_together(self):
        """All of them vote, are ready for, or give the same late block, each time to some of the machines."""
        block = self.liars.block(self.time // 5)
        kind = self.rng.choice(["vote", "ready", "ready", "give"])
        letter = (kind, block[2], block) if kind == "give" else (kind, block)
        for sender in self.liars.names:
            for receiver in self.honest:
                if self.rng.randrange(3):
                    self.packets.append((self.time, sender, receiver, letter))

    def crash_or_restart(self, number):
        """Let a machine crash now or at an operation to come, or start again."""
        if self.machines[number] is not None:
            if self.rng.randrange(2):
                self.machines[number] = None
            self.disks[number].arm(self.rng.randrange(12))
        else:
            self.restart(number)

    def restart(self, number):
        """Make a machine again on its disk."""
        disk = self.disks[number]
        disk.crash([self.rng.randrange(2) == 0 for _ in disk.pending()])
        self.machines[number] = Machine(self.group, number, disk)
        self.case.assertEqual(self.machines[number].epoch(), 0)
        self.check_ledger(number, self.machines[number].ledger())
        self.call(number, lambda each: each.tick(self.time))

    def bad_tick(self, lost, doubled, delayed, crashes):
        """A tick of a bad network; the numbers are chances in thousandths."""
        self.tick()
        if self.rng.randrange(4) == 0:
            self.submit()
        for number in self.honest:
            if self.rng.randrange(1000) < crashes or (self.machines[number] is None and self.rng.randrange(4) == 0):
                self.crash_or_restart(number)
        for _ in range(2 * len(self.packets)):
            if not self.packets:
                break
            if self.rng.randrange(30) == 0:
                self.lie()
            position = self.rng.randrange(min(40, len(self.packets)))
            chance = self.rng.randrange(1000)
            if chance < lost:
                self.packets.pop(position)
            elif chance < lost + doubled:
                self.packets.append(self.packets[position])
            elif chance < lost + doubled + delayed:
                self.packets.append(self.packets.pop(position))
            else:
                self.deliver(position)
        while len(self.packets) > 400:
            self.packets.pop(self.rng.randrange(len(self.packets)))

    def become_timely(self):
        """Let all machines start again; what is in flight may be lost."""
        for number in self.honest:
            self.restart(number)
        self.packets = [packet for packet in self.packets if self.rng.randrange(2)]

    def timely_tick(self):
        """A tick of a timely network (point 6): what was sent ahead of the last tick is received ahead of the next one."""
        self.tick()
        late = [position for position, packet in enumerate(self.packets) if packet[0] < self.time]
        while late:
            self.deliver(self.rng.choice(late))
            if self.rng.randrange(8) == 0:
                self.lie()
            late = [position for position, packet in enumerate(self.packets) if packet[0] < self.time]
        for _ in range(self.rng.randrange(len(self.packets) + 1)):
            self.deliver(self.rng.randrange(len(self.packets)))
