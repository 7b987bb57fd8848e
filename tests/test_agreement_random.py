"""Points 311 to 313 told once more, against the agreement of a machine that gets random messages."""

import random
import unittest

from oathledger.agreement import Agreement
from oathledger.blocks import GENESIS
from oathledger.errors import BadBlock
from oathledger.groups import Group
from tests import test_chain, test_notary

COMMANDS = [(client, number, text) for client in (-2, -1) for number in (1, 2, 3) for text in "ab"]


class Model:
    """An agreement over the models of the notary and of the chain."""

    def __init__(self, group, me, root, numbers, votes, readies, last, floor):
        self.group = group
        self.me = me
        self.chain = test_chain.Model(root)
        self.notary = test_notary.Model(group.faults)
        self.numbers = dict(numbers)
        self.proposals = []
        self.votes = list(votes)
        self.readies = list(readies)
        self.last = max([last] + [each[0] for each in votes])
        self.floor = max([floor] + [each[2] - 1 for each in votes])
        self.finals = []
        for kind, blocks in (("vote", votes), ("ready", readies)):
            for each in blocks:
                self.notary.add(kind, me, each)
        self.notary.forget(root[0])

    def receive(self, sender, kind, each):
        root = self.chain.root
        if each[0] <= root[0] or each[2] <= root[2]:
            return
        if kind != "propose":
            self.notary.add(kind, sender, each)
        elif sender == self.group.leader(each[0]) and each[0] not in [other[0] for other in self.proposals]:
            self.proposals.append(each)

    def numbers_at(self, epoch):
        numbers = dict(self.numbers)
        for each in self.chain.path(epoch):
            numbers.update({command[0]: command[1] for command in each[3]})
        return numbers

    def connected(self, epoch):
        return next((each for each in [self.chain.root] + self.chain.joined if each[0] == epoch), None)

    def settle(self, path):
        self.finals.extend(path)
        for each in path:
            self.numbers.update({command[0]: command[1] for command in each[3]})
        self.chain.settle(path[-1])
        self.notary.forget(path[-1][0])

    def may_vote(self, each, epoch, known):
        parent = self.connected(each[1])
        if each[0] != epoch or epoch <= self.last or parent is None or each[2] != parent[2] + 1:
            return False
        if parent[2] < self.chain.tip()[2] or parent[2] < self.floor:
            return False
        numbers = self.numbers_at(each[1])
        return all(command in known and command[1] > numbers.get(command[0], 0) for command in each[3])

    def round(self, epoch, known):
        actions = []
        for at in self.notary.epochs():
            each = self.notary.supported(at)
            if at > self.chain.root[0] and each is not None and at not in [other[0] for other in self.readies]:
                self.readies.append(each)
                self.notary.add("ready", self.me, each)
                actions.append(("ready", each))
        before = len(self.chain.joined)
        for at in self.notary.epochs():
            if self.notary.notarized(at) is not None:
                self.chain.insert(self.notary.notarized(at))
        connected = len(self.chain.joined) > before
        while self.chain.final() is not None:
            self.settle(self.chain.path(self.chain.final()[0]))
        for each in self.proposals:
            if self.may_vote(each, epoch, known):
                self.votes.append(each)
                self.last = each[0]
                self.floor = max(self.floor, each[2] - 1)
                self.notary.add("vote", self.me, each)
                actions.append(("vote", each))
        return actions, connected

    def advance(self, epoch, known):
        found = []
        while True:
            actions, connected = self.round(epoch, known)
            found.extend(actions)
            if not actions and not connected:
                return found

    def propose(self, epoch, candidates):
        tip = self.chain.tip()
        if epoch == 0 or self.group.leader(epoch) != self.me or self.last >= epoch or tip[0] >= epoch:
            return None
        numbers = self.numbers_at(tip[0])
        chosen = []
        for client in sorted({command[0] for command in candidates}):
            good = [command for command in candidates if command[0] == client and command[1] > numbers.get(client, 0)]
            if good:
                chosen.append(min(good, key=lambda command: (command[1], command[2])))
        each = (epoch, tip[0], tip[2] + 1, tuple(chosen))
        self.receive(self.me, "propose", each)
        return each

    def sent(self, kind):
        return sorted(each for each in (self.votes if kind == "vote" else self.readies) if each[0] > self.chain.root[0])

    def told(self):
        return self.chain.root, self.chain.tip(), self.finals, self.sent("vote"), self.sent("ready")


def told(agreement):
    return (agreement.last_final(), agreement.tip(), agreement.final_blocks(), agreement.sent("vote"), agreement.sent("ready"))


def random_block(rng, model, epoch):
    """A block of an epoch near this one, most often on top of a connected block."""
    at = max(1, epoch + rng.choice([-2, -1, 0, 0, 0, 1, 2]))
    parents = [each for each in [model.chain.root] + model.chain.joined + model.chain.waiting if each[0] < at]
    commands = tuple(sorted({command[0]: command for command in rng.sample(COMMANDS, 2)}.values())) if rng.randrange(2) else ()
    if parents and rng.randrange(12):
        parent = max(parents) if rng.randrange(2) else rng.choice(parents)
        return (at, parent[0], parent[2] + 1, commands)
    parent = rng.randrange(at)
    return (at, parent, rng.randrange(2, parent + 2) if parent else 1, commands)


class RandomTest(unittest.TestCase):
    def start(self, rng):
        """An agreement and its model with the same past."""
        group = Group(rng.choice([0, 1, 1, 2]))
        me = rng.randrange(group.machines)
        root = rng.choice([GENESIS, (3, 2, 2, ((-1, 1, "a"),))])
        epochs = sorted(rng.sample(range(1, 9), rng.randrange(4)))
        votes = [(epoch, 0, 1, ()) if epoch < 4 else (epoch, 3, 3, ()) for epoch in epochs]
        readies = [(epoch, 3, 3, ()) for epoch in rng.sample(range(4, 9), rng.randrange(3))]
        parts = (group, me, root, {-1: 1} if root[0] else {}, votes, readies, rng.choice([0, 0, 5]), rng.choice([0, 0, 1, 3]))
        return Agreement(*parts), Model(*parts)

    def test_random_messages(self):
        rng = random.Random(12)
        counts = {"vote": 0, "ready": 0, "final": 0, "propose": 0, "adopt": 0, "bad": 0}
        for _ in range(250):
            agreement, model = self.start(rng)
            epoch = model.chain.root[0] + 1
            blocks = []
            for _ in range(120):
                epoch += rng.randrange(8) == 0
                if not blocks or rng.randrange(5) == 0:
                    blocks.append(random_block(rng, model, epoch))
                each = rng.choice(blocks[-4:])
                word = rng.randrange(60)
                if word < 56:
                    kind = "propose" if word < 8 else rng.choice(["vote", "ready", "ready"])
                    sender = model.group.leader(each[0]) if word < 6 else rng.randrange(model.group.machines)
                    agreement.receive(sender, kind, each)
                    model.receive(sender, kind, each)
                elif word < 58:
                    candidates = rng.sample(COMMANDS, 5)
                    found = agreement.propose(epoch, candidates)
                    self.assertEqual(found, model.propose(epoch, candidates))
                    counts["propose"] += found is not None
                elif rng.randrange(4) == 0:
                    self.adopt(agreement, model, each, counts)
                if rng.randrange(2):
                    known = rng.sample(COMMANDS, 10)
                    actions = agreement.advance(epoch, known)
                    self.assertEqual(actions, model.advance(epoch, known))
                    for kind, _ in actions:
                        counts[kind] += 1
                self.assertEqual(told(agreement), model.told())
            counts["final"] += len(model.finals)
        self.assertGreater(min(counts.values()), 50, counts)

    def adopt(self, agreement, model, each, counts):
        root = model.chain.root
        if each[1] == root[0] and each[2] == root[2] + 1:
            # With another connected block of this epoch, too many machines would lie.
            if model.connected(each[0]) in (None, each):
                counts["adopt"] += 1
                agreement.adopt(each)
                model.settle([each])
        else:
            counts["bad"] += 1
            with self.assertRaises(BadBlock):
                agreement.adopt(each)


if __name__ == "__main__":
    unittest.main()
