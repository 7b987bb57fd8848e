"""Points 512 to 518 told once more, against a machine that gets random letters, ticks and crashes."""

import copy
import random
import unittest

from oathledger.agreement import Agreement
from oathledger.blocks import GENESIS, follows
from oathledger.executor import State, execute
from oathledger.groups import Group
from oathledger.letters import is_letter
from oathledger.machine import Machine
from oathledger.memory import Memory
from oathledger.snapshot import state_text
from tests.disks import LoggingDisk
from tests.machines import records_on


class Model:
    """A machine that keeps everything in plain lists and computes it anew each time; records stands for the disk."""

    def __init__(self, group, me, records):
        memory = Memory(records)
        self.group, self.me, self.records = group, me, list(records)
        self.blocks = memory.finals()
        self.vouches = {(me, vouch[0]): vouch for vouch in memory.vouches()}
        self.gives = []
        self.time, self.epoch, self.told = 0, 0, False
        self.agreement = Agreement(group, me, self.last(), self.state().sessions.numbers(), memory.votes(), memory.readies(),
                                   memory.last_vote(), memory.floor())
        self.recovered = len(self.blocks)

    def last(self):
        return self.blocks[-1] if self.blocks else GENESIS

    def state(self):
        state = State()
        for each in self.blocks:
            for command in each[3]:
                execute(state, command)
        return state

    def support(self, command):
        return len([vouch for vouch in self.vouches.values() if vouch == command])

    def known(self):
        return [command for (sender, _), command in self.vouches.items()
                if sender == self.me or self.support(command) > self.group.faults]

    def all(self, *letters):
        return [(receiver, letter) for letter in letters for receiver in range(self.group.machines) if receiver != self.me]

    def next_block(self):
        found = []
        for _, each in self.gives:
            count = len([give for give in self.gives if give[1] == each])
            if each[2] == len(self.blocks) + 1 and count > self.group.faults and follows(each, self.last()):
                found.append(each)
        return min(found) if found else None

    def finish(self, each):
        """Make a block the next one of the ledger."""
        self.records.append(("final", each))
        self.blocks.append(each)
        for client, number, _ in each[3]:
            self.vouches = {key: vouch for key, vouch in self.vouches.items() if key[1] != client or vouch[1] > number}
        self.gives = [give for give in self.gives if give[1][2] > len(self.blocks)]
        state = self.state()
        if len(self.blocks) in (8, 16, 24, 32, 40):
            self.records.append(("state", len(self.blocks), state_text(state)))
        return [(client, ("answer", number, state.sessions.answer(client))) for client, number, _ in each[3]]

    def work(self):
        sent = []
        while True:
            for action in self.agreement.advance(self.epoch, self.known()):
                self.records.append(action)
                sent.extend(self.all(action))
            for each in self.agreement.final_blocks()[len(self.blocks) - self.recovered:]:
                sent.extend(self.finish(each))
            each = self.next_block()
            if each is None:
                return sent
            self.agreement.adopt(each)

    def tick(self, time):
        starts = not self.told or time // 5 > self.epoch
        self.time, self.epoch, self.told = time, time // 5, True
        if not starts:
            return self.work()
        own = sorted([vouch for (sender, _), vouch in self.vouches.items() if sender == self.me])
        sent = self.all(*[("vouch", vouch) for vouch in own])
        for kind in ("vote", "ready"):
            sent.extend(self.all(*[(kind, each) for each in self.agreement.sent(kind)]))
        sent.extend(self.all(("claim", len(self.blocks))))
        sent.extend(self.work())
        backed = {vouch for vouch in self.vouches.values() if self.support(vouch) > 2 * self.group.faults}
        each = self.agreement.propose(self.epoch, sorted(backed))
        if each is not None:
            sent.extend(self.all(("propose", each)))
        return sent + self.work()

    def receive(self, sender, letter):
        if not is_letter(letter) or letter[0] == "answer" or sender == self.me:
            return []
        kind = letter[0]
        if (kind == "command") != (sender < 0) or sender > 3 * self.group.faults:
            return []
        if kind == "command":
            return self.command((sender,) + letter[1:])
        if kind == "claim":
            return [(sender, ("give", each[2], each)) for each in self.blocks[letter[1]:]]
        if kind == "vouch":
            command = letter[1]
            old = self.vouches.get((sender, command[0]), (0, 0, ""))
            if command[1] > max(old[1], self.state().sessions.last(command[0])):
                self.vouches[(sender, command[0])] = command
            return self.work()
        each = letter[-1]
        if each[0] > self.epoch + 1:
            return []
        if kind == "give":
            if each[2] > len(self.blocks) and not [1 for other in self.gives if other[0] == sender and other[1][2] == each[2]]:
                self.gives.append((sender, each))
            kind = "ready"
        self.agreement.receive(sender, kind, each)
        return self.work()

    def command(self, command):
        client, number, _ = command
        sessions = self.state().sessions
        if number == sessions.last(client):
            return [(client, ("answer", number, sessions.answer(client)))]
        if number != sessions.last(client) + 1 or (self.me, client) in self.vouches:
            return []
        self.vouches[(self.me, client)] = command
        self.records.append(("vouch", command))
        return self.all(("vouch", command)) + self.work()


class Letters:
    """Random letters to a machine, most of which fit to what it does."""

    def __init__(self, rng, model):
        self.rng = rng
        self.blocks = [GENESIS]
        self.model = model
        self.commands = [(client, number, text) for client in (-3, -1) for number in (1, 2, 3, 4) for text in ("put k v", "x")]

    def next_block(self):
        """A new block, most often of this epoch and on top of a late block."""
        at = max(1, self.model.epoch + self.rng.choice([-1, 0, 0, 0, 0, 1, 2]))
        parents = [self.model.agreement.tip()] * 6 + [self.model.last()] + self.blocks[-4:]
        parents = [each for each in parents if each[0] < at] or [GENESIS]
        parent = self.rng.choice(parents)
        numbers = self.model.state().sessions.numbers()
        good = [each for each in self.commands if each[1] == numbers.get(each[0], 0) + 1]
        chosen = {each[0]: each for each in self.rng.sample(good, min(len(good), self.rng.randrange(3)))}
        self.blocks.append((at, parent[0], parent[2] + 1, tuple(chosen[client] for client in sorted(chosen))))
        del self.blocks[:-12]
        return self.blocks[-1]

    def one(self):
        """A sender and a letter."""
        rng, group = self.rng, self.model.group
        word = rng.randrange(40)
        sender = rng.randrange(group.machines)
        if word < 3:
            command = rng.choice(self.commands)
            return command[0], ("command",) + command[1:]
        if word < 8:
            return sender, ("vouch", rng.choice(self.commands))
        if word == 8:
            return sender, ("claim", rng.randrange(5))
        if word == 9:
            return rng.choice([sender, -1, group.machines]), rng.choice([("vote",), 5, ("answer", 1, "a"), ("claim", True)])
        each = self.next_block() if len(self.blocks) == 1 or rng.randrange(7) == 0 else rng.choice(self.blocks[1:][-3:])
        if word < 16:
            return group.leader(each[0]) if rng.randrange(6) else sender, ("propose", each)
        if word < 23:
            return sender, ("vote", each)
        if word < 35:
            return sender, ("ready", each)
        return sender, ("give", each[2], each)


class RandomTest(unittest.TestCase):
    def start(self, rng):
        group = Group(rng.choice([0, 1, 1, 1, 2]))
        me = rng.randrange(group.machines)
        disk = LoggingDisk(3000)
        return group, me, disk, Machine(group, me, disk), Model(group, me, [])

    def assert_equal(self, machine, model):
        self.assertEqual((machine.ledger(), machine.epoch(), machine.tip()),
                         (model.blocks, model.epoch, model.agreement.tip()))
        self.assertEqual(machine.state_text(), state_text(model.state()))

    def test_random_calls(self):
        rng = random.Random(31)
        counts = {"vote": 0, "ready": 0, "final": 0, "state": 0, "vouch": 0, "answer": 0, "propose": 0, "restart": 0, "give": 0}
        for _ in range(60):
            group, me, disk, machine, model = self.start(rng)
            letters = Letters(rng, model)
            time = 0
            for _ in range(250):
                noted = len(model.records)
                disk.taken()
                if rng.randrange(12) == 0:
                    time += rng.choice([0, 1, 2, 5, 5, 5, 7])
                    sent, expected = machine.tick(time), model.tick(time)
                else:
                    sender, letter = letters.one()
                    sent, expected = machine.receive(sender, letter), model.receive(sender, letter)
                self.assertEqual(sent, expected)
                self.assert_equal(machine, model)
                syncs = 1 if len(model.records) > noted else 0
                self.assertEqual((disk.taken().count("sync"), disk.pending()), (syncs, []))
                for _, letter in sent:
                    counts[letter[0]] = counts.get(letter[0], 0) + 1
                if rng.randrange(40) == 0:
                    self.assertEqual(records_on(disk), model.records)
                    counts["restart"] += 1
                    disk = copy.deepcopy(disk)
                    machine, model = Machine(group, me, disk), Model(group, me, model.records)
                    letters.model = model
                    self.assert_equal(machine, model)
            self.assertEqual(records_on(disk), model.records)
            for record in model.records:
                if record[0] in ("final", "state", "vouch"):
                    counts[record[0]] += 1
        self.assertGreater(min(counts.values()), 10, counts)


if __name__ == "__main__":
    unittest.main()
