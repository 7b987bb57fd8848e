"""Points 510, 512, 519 and 520: a machine whose disk crashes at any operation."""

import random
import unittest

from oathledger.errors import DiskCrashed, JournalFull
from oathledger.groups import Group
from oathledger.machine import Machine
from oathledger.memory import Memory, reduce
from oathledger.outbox import repeats
from tests.disks import LoggingDisk, crashed_copies
from tests.machines import records_on
from tests.values import block

ANN = (-1, 1, "open ann;issue ann 100")
BOB = (-2, 1, "open bob")
PAY = (-1, 2, "pay ann bob 30")
A = block(1, 0, 1, (BOB, ANN))
B = block(2, 1, 2, ())
C = block(3, 2, 3, (PAY,))
D = block(5, 3, 4, ())
E = block(6, 5, 5, ())
FORK = block(4, 3, 4, ())


def script():
    """The calls of machine 3 of a group of four: each kind of letter, votes, ready messages, and final blocks."""
    calls = [("tick", 0), (-1, ("command", 1, ANN[2])), (-2, ("command", 1, BOB[2])), ("tick", 5)]
    for each in (A, B, C):
        calls.extend([("tick", 5 * each[0]), (1, ("vouch", PAY)), (0, ("propose", each)), (0, ("vote", each)),
                      (1, ("vote", each)), (2, ("ready", each)), (0, ("ready", each)), (-1, ("command", 2, PAY[2]))])
    calls.extend([("tick", 20), (0, ("propose", FORK)), (0, ("vote", FORK)), ("tick", 26)])
    calls.extend([(sender, ("give", each[2], each)) for each in (E, D, C) for sender in (0, 2)])
    calls.extend([(1, ("claim", 1)), (-1, ("command", 3, "put k v")), ("tick", 30), (-2, ("command", 2, "get k"))])
    return calls


def perform(machine, call):
    """Make a call."""
    if call[0] == "tick":
        return machine.tick(call[1])
    return machine.receive(call[0], call[1])


def first_letters(records):
    """What a new machine with these records repeats first."""
    memory = Memory(records)
    last = memory.finals()[-1][0] if memory.finals() else 0
    votes, readies = [sorted(each for each in blocks if each[0] > last) for blocks in (memory.votes(), memory.readies())]
    return repeats(Group(1), 3, memory.vouches(), votes, readies, len(memory.finals()))


class Sent:
    """What a machine sent, across its crashes: point 519."""

    def __init__(self, case):
        self.case = case
        self.blocks = {}
        self.commands = {}

    def add(self, letters):
        for _, letter in letters:
            if letter[0] in ("vote", "ready"):
                self.case.assertEqual(self.blocks.setdefault((letter[0], letter[1][0]), letter[1]), letter[1])
            elif letter[0] == "vouch":
                self.case.assertEqual(self.commands.setdefault(letter[1][:2], letter[1]), letter[1])


class SweepTest(unittest.TestCase):
    def twin(self, size):
        """The records behind each call of a run without a crash, the ledgers, and the number of operations."""
        disk = LoggingDisk(size)
        machine = Machine(Group(1), 3, disk)
        disk.taken()
        records, ledgers = [records_on(disk)], [[]]
        for call in script():
            perform(machine, call)
            records.append(records_on(disk))
            ledgers.append(machine.ledger())
        return records, ledgers, len(disk.taken())

    def crash_at(self, size, operations):
        """Run until the disk crashes; return the disk and the index of the call that crashed."""
        disk = LoggingDisk(size)
        machine = Machine(Group(1), 3, disk)
        disk.arm(operations)
        for index, call in enumerate(script()):
            try:
                perform(machine, call)
            except DiskCrashed:
                return disk, index
            self.assertEqual(disk.pending(), [])
        raise AssertionError("no crash")

    def test_the_run(self):
        records, ledgers, operations = self.twin(2000)
        self.assertEqual(ledgers[-1], [A, B, C, D, E])
        kinds = [record[0] for record in records[-1]]
        self.assertEqual([kinds.count(kind) for kind in ("vouch", "vote", "ready", "final")], [5, 4, 5, 5])
        self.assertGreater(operations, 40)

    def test_each_operation_with_any_survivors(self):
        records, ledgers, operations = self.twin(2000)
        for at in range(operations):
            disk, index = self.crash_at(2000, at)
            before, after = records[index], records[index + 1]
            self.assertEqual(after[:len(before)], before)
            found = []
            for other in crashed_copies(disk):
                self.check_new_machine(other, before, after, ledgers[index], ledgers[index + 1])
                found.append(len(records_on(other)))
            self.assertEqual(min(found), len(before))

    def check_new_machine(self, disk, before, after, ledger, next_ledger):
        """A machine that is made again has what was noted before the call, and perhaps a part of what came in it."""
        recovered = records_on(disk)
        self.assertEqual(recovered[:len(before)], before)
        self.assertEqual(recovered, after[:len(recovered)])
        machine = Machine(Group(1), 3, disk)
        self.assertEqual(machine.epoch(), 0)
        self.assertEqual(machine.ledger()[:len(ledger)], ledger)
        self.assertEqual(machine.ledger(), next_ledger[:len(machine.ledger())])
        expected = first_letters(recovered)
        self.assertEqual(machine.tick(0)[:len(expected)], expected)

    def test_a_tight_disk_that_compacts(self):
        records, ledgers, _ = self.twin(2000)
        for size in range(40, 70, 6):
            try:
                _, _, operations = self.twin(size)
            except JournalFull:
                continue
            for at in range(0, operations):
                disk, index = self.crash_at(size, at)
                before, after = records[index], records[index + 1]
                choices = [first_letters(reduce(after[:count])) for count in range(len(before), len(after) + 1)]
                for other in crashed_copies(disk):
                    machine = Machine(Group(1), 3, other)
                    self.assertEqual(machine.ledger()[:len(ledgers[index])], ledgers[index])
                    self.assertEqual(machine.ledger(), ledgers[index + 1][:len(machine.ledger())])
                    letters = machine.tick(0)
                    self.assertTrue([1 for choice in choices if letters[:len(choice)] == choice])
            return
        raise AssertionError("no size")

    def test_compactions_happen_on_the_tight_disk(self):
        for size in range(40, 70, 6):
            disk = LoggingDisk(size)
            machine = Machine(Group(1), 3, disk)
            disk.taken()
            try:
                for call in script():
                    perform(machine, call)
            except JournalFull:
                continue
            heads = [each for each in disk.taken() if each != "sync" and each[0] < 2]
            self.assertGreater(len(heads), 0)
            return
        raise AssertionError("no size")


class AgainTest(unittest.TestCase):
    def run_with_crashes(self, rng, chance):
        """Go through the script; after a crash, repeat the call on a new machine. Check points 519 and 520."""
        sent = Sent(self)
        disk = LoggingDisk(2000)
        machine = Machine(Group(1), 3, disk)
        ledger, crashes = [], 0
        time = 0
        for call in script():
            time = call[1] if call[0] == "tick" else time
            if rng.randrange(chance) == 0:
                disk.arm(rng.randrange(6))
            done = False
            while not done:
                try:
                    sent.add(perform(machine, call))
                    done = True
                except DiskCrashed:
                    crashes += 1
                    disk.crash([rng.randrange(2) == 0 for _ in disk.pending()])
                    machine = Machine(Group(1), 3, disk)
                    self.assertEqual(machine.ledger()[:len(ledger)], ledger)
                    sent.add(machine.tick(time))
                self.assertEqual(machine.ledger()[:len(ledger)], ledger)
                ledger = machine.ledger()
        return sent, ledger, crashes

    def test_votes_ready_messages_and_vouches(self):
        rng = random.Random(8)
        total, longest = 0, []
        for chance in [3, 8, 20] * 30:
            sent, ledger, crashes = self.run_with_crashes(rng, chance)
            total += crashes
            longest = max(longest, ledger, key=len)
            self.assertEqual(ledger, [A, B, C, D, E][:len(ledger)])
            epochs = [epoch for kind, epoch in sent.blocks if kind == "vote"]
            self.assertEqual(epochs, sorted(epochs))
        self.assertGreater(total, 100)
        self.assertEqual(longest, [A, B, C, D, E])

    def test_another_proposal_behind_a_crash_gets_no_vote(self):
        for operations in range(8):
            disk = LoggingDisk(500)
            machine = Machine(Group(1), 3, disk)
            machine.tick(5)
            disk.arm(operations)
            try:
                machine.receive(0, ("propose", block(1)))
                voted = True
            except DiskCrashed:
                voted = False
            disk.crash([True] * 9)
            again = Machine(Group(1), 3, disk)
            again.tick(5)
            other = block(1, commands=((-5, 1, "a"),))
            again.receive(1, ("vouch", other[3][0]))
            again.receive(2, ("vouch", other[3][0]))
            letters = again.receive(0, ("propose", other))
            remembered = [record for record in records_on(disk) if record == ("vote", block(1))]
            self.assertEqual(len(letters), 0 if remembered else 3)
            if voted:
                self.assertEqual(len(remembered), 1)


if __name__ == "__main__":
    unittest.main()
