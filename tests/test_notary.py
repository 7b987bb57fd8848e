"""Points 302 to 304: counting votes and ready messages."""

import itertools
import random
import unittest

from oathledger.groups import Group
from oathledger.notary import Notary
from tests.values import block

A = (7, 0, 1, ())
B = (7, 0, 1, ((-1, 1, "b"),))
C = (7, 3, 2, ())
LATER = block(8)


def given(faults, messages):
    """A notary of a group that was given these messages, and what it returned for each."""
    notary = Notary(Group(faults))
    returned = []
    for kind, sender, each in messages:
        add = notary.add_vote if kind == "vote" else notary.add_ready
        returned.append(add(sender, each))
    return notary, returned


class Model:
    """Points 302 to 304 told once more: each question looks at all messages from the first one on."""

    def __init__(self, faults):
        self.group = Group(faults)
        self.messages = []
        self.forgotten = 0

    def add(self, kind, sender, each):
        if each[0] <= self.forgotten or any(m[0] == kind and m[1] == sender and m[2][0] == each[0] for m in self.messages):
            return False
        self.messages.append((kind, sender, each))
        return True

    def forget(self, epoch):
        self.forgotten = max(self.forgotten, epoch)
        self.messages = [m for m in self.messages if m[2][0] > epoch]

    def count(self, kind, each, end=None):
        return len([m for m in self.messages[:end] if m[0] == kind and m[2] == each])

    def first(self, epoch, reached):
        for end in range(1, len(self.messages) + 1):
            each = self.messages[end - 1][2]
            if each[0] == epoch and reached(each, end):
                return each
        return None

    def supported(self, epoch):
        return self.first(epoch, lambda each, end: self.count("vote", each, end) >= self.group.quorum
                          or self.count("ready", each, end) >= self.group.blocking)

    def notarized(self, epoch):
        return self.first(epoch, lambda each, end: self.count("ready", each, end) >= self.group.quorum)

    def epochs(self):
        return sorted({m[2][0] for m in self.messages})


class CountTest(unittest.TestCase):
    def test_empty(self):
        notary = Notary(Group(1))
        self.assertEqual((notary.votes(A), notary.readies(A)), (0, 0))
        self.assertEqual((notary.supported(7), notary.notarized(7), notary.epochs()), (None, None, []))

    def test_the_first_message_of_a_sender_counts(self):
        for kind in ("vote", "ready"):
            messages = [(kind, 0, A), (kind, 0, A), (kind, 0, B), (kind, 1, B), (kind, 1, A), (kind, 0, LATER), (kind, 0, block(6))]
            notary, returned = given(3, messages)
            self.assertEqual(returned, [True, False, False, True, False, True, True])
            count = notary.votes if kind == "vote" else notary.readies
            other = notary.readies if kind == "vote" else notary.votes
            self.assertEqual([count(each) for each in (A, B, C, LATER, block(6), block(5))], [1, 1, 0, 1, 1, 0])
            self.assertEqual([other(each) for each in (A, B, C, LATER, block(6), block(5))], [0] * 6)
            self.assertEqual(notary.epochs(), [6, 7, 8])

    def test_least_epoch(self):
        notary, returned = given(0, [("vote", 0, block(1)), ("ready", 0, block(1))])
        self.assertEqual(returned, [True, True])
        self.assertEqual((notary.epochs(), notary.notarized(1)), ([1], block(1)))

    def test_what_counts_is_told_by_true_and_false(self):
        notary = Notary(Group(0))
        self.assertIs(notary.add_vote(0, A), True)
        self.assertIs(notary.add_vote(0, A), False)
        self.assertIs(notary.add_ready(0, A), True)
        self.assertIs(notary.add_ready(0, A), False)

    def test_a_sender_that_gives_both_kinds(self):
        notary, returned = given(3, [("vote", 4, A), ("ready", 4, B), ("ready", 4, A), ("vote", 4, B)])
        self.assertEqual(returned, [True, True, False, False])
        self.assertEqual((notary.votes(A), notary.readies(A), notary.votes(B), notary.readies(B)), (1, 0, 0, 1))

    def test_blocks_that_differ_in_one_part(self):
        notary, _ = given(3, [("vote", 0, A), ("vote", 1, B), ("vote", 2, C), ("vote", 3, (7, 3, 3, ()))])
        self.assertEqual([notary.votes(each) for each in (A, B, C, (7, 3, 3, ()), (7, 3, 4, ()))], [1, 1, 1, 1, 0])

    def test_epochs(self):
        notary, _ = given(1, [("ready", 0, block(9)), ("vote", 0, block(10)), ("vote", 0, block(2)), ("ready", 1, block(2))])
        self.assertEqual(notary.epochs(), [2, 9, 10])
        notary.epochs().append(5)
        self.assertEqual(notary.epochs(), [2, 9, 10])

    def test_two_notaries_side_by_side(self):
        first, second = Notary(Group(0)), Notary(Group(0))
        first.add_vote(0, A)
        self.assertEqual((second.votes(A), second.epochs(), second.supported(7)), (0, [], None))


class ThresholdTest(unittest.TestCase):
    def test_votes(self):
        for faults in range(4):
            quorum = 2 * faults + 1
            notary, _ = given(faults, [("vote", sender, A) for sender in range(quorum - 1)])
            self.assertIsNone(notary.supported(7))
            notary.add_vote(quorum - 1, A)
            self.assertEqual(notary.supported(7), A)
            self.assertIsNone(notary.notarized(7))
            for sender in range(quorum, 3 * faults + 1):
                notary.add_vote(sender, A)
            self.assertIsNone(notary.notarized(7))

    def test_readies(self):
        for faults in range(4):
            notary = Notary(Group(faults))
            for sender in range(3 * faults + 1):
                self.assertTrue(notary.add_ready(sender, A))
                self.assertEqual(notary.supported(7), A if sender + 1 >= faults + 1 else None)
                self.assertEqual(notary.notarized(7), A if sender + 1 >= 2 * faults + 1 else None)

    def test_votes_and_readies_are_not_added_up(self):
        notary, _ = given(2, [("vote", sender, A) for sender in range(4)] + [("ready", sender, A) for sender in (5, 6)])
        self.assertIsNone(notary.supported(7))
        self.assertIsNone(notary.notarized(7))

    def test_repetitions_do_not_reach_a_threshold(self):
        notary, _ = given(1, [("vote", 0, A), ("vote", 1, A), ("vote", 1, A), ("ready", 0, A), ("ready", 0, A)])
        self.assertIsNone(notary.supported(7))

    def test_messages_for_other_blocks_do_not_count(self):
        notary, _ = given(1, [("vote", 0, A), ("vote", 1, A), ("vote", 2, B), ("vote", 3, C), ("ready", 0, A), ("ready", 1, B),
                              ("ready", 2, C)])
        self.assertIsNone(notary.supported(7))

    def test_epochs_stand_apart(self):
        notary, _ = given(1, [("ready", sender, A) for sender in range(3)])
        self.assertEqual((notary.supported(6), notary.supported(8), notary.notarized(8)), (None, None, None))

    def test_the_first_supported_block_stays(self):
        votes = [("vote", sender, A) for sender in range(3)]
        readies = [("ready", sender, B) for sender in range(2)]
        for messages, first in ((votes + readies, A), (readies + votes, B)):
            notary, returned = given(1, messages)
            self.assertEqual(returned, [True] * 5)
            self.assertEqual(notary.supported(7), first)

    def test_a_block_that_is_notarized_and_not_the_supported_one(self):
        notary, _ = given(1, [("vote", sender, A) for sender in range(3)] + [("ready", sender, B) for sender in range(3)])
        self.assertEqual((notary.supported(7), notary.notarized(7)), (A, B))

    def test_every_order(self):
        messages = [("vote", 0, A), ("vote", 1, A), ("vote", 2, A), ("ready", 0, B), ("ready", 1, B), ("vote", 0, B)]
        for order in itertools.permutations(messages):
            notary, _ = given(1, order)
            model = Model(1)
            for message in order:
                model.add(*message)
            self.assertEqual((notary.supported(7), notary.votes(A), notary.votes(B)),
                             (model.supported(7), model.count("vote", A), model.count("vote", B)))


class ForgetTest(unittest.TestCase):
    def full(self):
        messages = [(kind, sender, block(epoch)) for kind in ("vote", "ready") for sender in range(5) for epoch in (4, 5, 6, 7)]
        return given(2, messages)[0]

    def test_forget(self):
        notary = self.full()
        self.assertIsNone(notary.forget(5))
        self.assertEqual(notary.epochs(), [6, 7])
        for epoch in (4, 5):
            each = block(epoch)
            found = (notary.votes(each), notary.readies(each), notary.supported(epoch), notary.notarized(epoch))
            self.assertEqual(found, (0, 0, None, None))
            self.assertIs(notary.add_vote(0, each), False)
            self.assertIs(notary.add_ready(0, each), False)
            self.assertEqual((notary.votes(each), notary.readies(each), notary.epochs()), (0, 0, [6, 7]))
        for epoch in (6, 7):
            each = block(epoch)
            found = (notary.votes(each), notary.readies(each), notary.supported(epoch), notary.notarized(epoch))
            self.assertEqual(found, (5, 5, each, each))

    def test_forgotten_epochs_stay_forgotten(self):
        for later in (5, 4, 0):
            notary = self.full()
            notary.forget(5)
            notary.forget(later)
            self.assertEqual(notary.epochs(), [6, 7])
            for epoch in (3, 4, 5):
                for sender in range(7):
                    self.assertFalse(notary.add_ready(sender, block(epoch)))
                    self.assertFalse(notary.add_vote(sender, block(epoch)))
                self.assertIsNone(notary.supported(epoch))
            self.assertTrue(notary.add_vote(6, block(6)))

    def test_forget_with_a_greater_epoch(self):
        notary = self.full()
        notary.forget(5)
        notary.forget(6)
        self.assertEqual(notary.epochs(), [7])
        self.assertFalse(notary.add_vote(6, block(6)))
        notary.forget(100)
        self.assertEqual((notary.epochs(), notary.notarized(7)), ([], None))
        self.assertFalse(notary.add_vote(0, block(100)))
        self.assertTrue(notary.add_vote(0, block(101)))

    def test_forget_nothing(self):
        notary = self.full()
        notary.forget(0)
        notary.forget(3)
        self.assertEqual(notary.epochs(), [4, 5, 6, 7])
        self.assertFalse(notary.add_vote(0, block(3)))

    def test_an_epoch_that_was_not_counted_yet(self):
        notary = Notary(Group(0))
        notary.forget(7)
        self.assertFalse(notary.add_ready(0, A))
        self.assertEqual((notary.notarized(7), notary.epochs()), (None, []))


class RandomTest(unittest.TestCase):
    def test_random_messages(self):
        rng = random.Random(3)
        blocks = [A, B, C, block(8), block(8, 3), block(9), block(10)]
        for _ in range(60):
            faults = rng.randrange(4)
            notary, model = Notary(Group(faults)), Model(faults)
            for _ in range(60):
                each = rng.choice(blocks)
                sender = rng.randrange(3 * faults + 1)
                if rng.randrange(25) == 0:
                    epoch = rng.randrange(5, 11)
                    notary.forget(epoch)
                    model.forget(epoch)
                elif rng.randrange(2):
                    self.assertIs(notary.add_vote(sender, each), model.add("vote", sender, each))
                else:
                    self.assertIs(notary.add_ready(sender, each), model.add("ready", sender, each))
                self.assertEqual(notary.epochs(), model.epochs())
                for each in blocks:
                    self.assertEqual(notary.votes(each), model.count("vote", each))
                    self.assertEqual(notary.readies(each), model.count("ready", each))
                    self.assertEqual(notary.supported(each[0]), model.supported(each[0]))
                    self.assertEqual(notary.notarized(each[0]), model.notarized(each[0]))


if __name__ == "__main__":
    unittest.main()
