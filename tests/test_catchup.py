"""Points 506 and 507: blocks that other machines give as final."""

import itertools
import random
import unittest

from oathledger.blocks import GENESIS, follows
from oathledger.catchup import Catchup
from oathledger.groups import Group
from tests.objects import inside
from tests.values import block

A1 = block(3, commands=((-1, 1, "a"),))
B1 = block(3, commands=((-1, 1, "b"),))
C1 = block(2)
A2 = block(5, 3, 2)


def catchup_with(gives, faults=1):
    """A catch-up with these senders and blocks, given on top of genesis."""
    catchup = Catchup(Group(faults))
    for sender, each in gives:
        catchup.add(sender, each, 0)
    return catchup


class AddTest(unittest.TestCase):
    def test_first_give_of_a_machine_for_a_height(self):
        catchup = Catchup(Group(1))
        self.assertIs(catchup.add(0, A1, 0), True)
        self.assertIs(catchup.add(1, A1, 0), True)
        self.assertIs(catchup.add(0, A2, 0), True)

    def test_later_gives_of_a_machine_for_the_height(self):
        for second in (A1, B1, C1):
            catchup = catchup_with([(0, A1)])
            before = inside(catchup)
            self.assertIs(catchup.add(0, second, 0), False)
            self.assertEqual(inside(catchup), before)

    def test_a_later_give_does_not_replace_the_first_one(self):
        catchup = catchup_with([(0, A1), (0, B1), (1, B1)])
        self.assertIsNone(catchup.due(GENESIS))
        self.assertIs(catchup.add(2, B1, 0), True)
        self.assertEqual(catchup.due(GENESIS), B1)
        catchup = catchup_with([(0, A1), (0, B1), (1, A1)])
        self.assertEqual(catchup.due(GENESIS), A1)

    def test_heights_at_below_and_above_that_of_the_last_final_block(self):
        for height, counts in ((0, True), (1, True), (2, False), (3, False), (10, False)):
            catchup = Catchup(Group(1))
            before = inside(catchup)
            self.assertIs(catchup.add(0, A2, height), counts)
            self.assertEqual(inside(catchup) == before, not counts)

    def test_a_give_that_did_not_count_does_not_take_the_place_of_a_later_one(self):
        catchup = Catchup(Group(0))
        self.assertIs(catchup.add(0, B1, 1), False)
        self.assertIs(catchup.add(0, A1, 0), True)
        self.assertEqual(catchup.due(GENESIS), A1)

    def test_the_gives_of_a_height_far_above(self):
        catchup = catchup_with([(0, block(9, 8, 7)), (1, block(9, 8, 7))])
        self.assertIsNone(catchup.due(GENESIS))
        self.assertEqual(catchup.due(block(8, 7, 6)), block(9, 8, 7))


class DueTest(unittest.TestCase):
    def test_none(self):
        self.assertIsNone(Catchup(Group(0)).due(GENESIS))
        self.assertIsNone(Catchup(Group(1)).due(A1))

    def test_one_too_few_and_just_enough(self):
        for faults in (0, 1, 2, 3):
            catchup = Catchup(Group(faults))
            for sender in range(faults):
                catchup.add(sender, A1, 0)
                self.assertIsNone(catchup.due(GENESIS))
            catchup.add(3 * faults, A1, 0)
            self.assertEqual(catchup.due(GENESIS), A1)

    def test_gives_of_different_blocks_do_not_add_up(self):
        catchup = catchup_with([(0, A1), (1, B1), (2, C1)])
        self.assertIsNone(catchup.due(GENESIS))

    def test_a_block_that_does_not_follow(self):
        parent_of_another_epoch = block(6, 4, 2)
        catchup = catchup_with([(0, parent_of_another_epoch), (1, parent_of_another_epoch)])
        self.assertIsNone(catchup.due(A1))
        self.assertEqual(catchup.due(block(4)), parent_of_another_epoch)

    def test_a_block_of_another_height(self):
        catchup = catchup_with([(0, A2), (1, A2)])
        self.assertIsNone(catchup.due(GENESIS))
        self.assertIsNone(catchup.due(A2))
        self.assertEqual(catchup.due(A1), A2)

    def test_the_least_of_several(self):
        gives = [(0, B1), (1, B1), (2, A1), (3, A1), (4, C1), (5, C1), (6, C1)]
        for order in itertools.islice(itertools.permutations(gives), 0, None, 97):
            self.assertEqual(catchup_with(order).due(GENESIS), C1)
        self.assertEqual(catchup_with(gives[:4]).due(GENESIS), A1)
        self.assertEqual(catchup_with(gives[3::-1]).due(GENESIS), A1)

    def test_the_least_that_follows(self):
        least, next_one = block(6, 3, 2), block(6, 4, 2)
        catchup = catchup_with([(0, least), (1, least), (2, next_one), (3, next_one)])
        self.assertEqual(catchup.due(block(3)), least)
        self.assertEqual(catchup.due(block(4)), next_one)

    def test_asking_changes_nothing(self):
        catchup = catchup_with([(0, A1), (1, A1), (2, B1)])
        before = inside(catchup)
        self.assertEqual([catchup.due(GENESIS) for _ in range(3)], [A1] * 3)
        self.assertEqual(inside(catchup), before)


class ForgetTest(unittest.TestCase):
    def test_below_at_and_above(self):
        a3 = block(7, 5, 3)
        gives = [(sender, each) for sender in (0, 1) for each in (A1, A2, a3)]
        for height in range(5):
            catchup = catchup_with(gives)
            self.assertIsNone(catchup.forget(height))
            found = [catchup.due(last) for last in (GENESIS, A1, A2)]
            self.assertEqual(found, [each if each[2] > height else None for each in (A1, A2, a3)])

    def test_what_is_dropped_is_not_remembered(self):
        catchup = catchup_with([(0, A1), (1, A2)])
        catchup.forget(2)
        self.assertEqual(inside(catchup), inside(Catchup(Group(1))))

    def test_a_dropped_give_does_not_bar_another_one(self):
        catchup = catchup_with([(0, A1), (1, A1)])
        catchup.forget(1)
        self.assertIs(catchup.add(0, B1, 0), True)
        self.assertIsNone(catchup.due(GENESIS))


class RandomTest(unittest.TestCase):
    def test_against_a_list_of_gives(self):
        rng = random.Random(5)
        counts = {"counted": 0, "not": 0, "due": 0, "none": 0}
        for _ in range(200):
            faults = rng.randrange(3)
            catchup = Catchup(Group(faults))
            gives = []
            blocks = [block(rng.randrange(1, 4)) for _ in range(2)]
            blocks += [block(rng.randrange(4, 7), rng.randrange(1, 4), 2) for _ in range(2)]
            for _ in range(60):
                sender, each, height = rng.randrange(3 * faults + 1), rng.choice(blocks), rng.choice([0, 0, 0, 1, 2])
                fits = each[2] > height and not [give for give in gives if give[0] == sender and give[1][2] == each[2]]
                self.assertIs(catchup.add(sender, each, height), fits)
                counts["counted" if fits else "not"] += 1
                if fits:
                    gives.append((sender, each))
                if rng.randrange(9) == 0:
                    height = rng.randrange(3)
                    catchup.forget(height)
                    gives = [give for give in gives if give[1][2] > height]
                for last in [GENESIS] + blocks:
                    named = [give[1] for give in gives if give[1][2] == last[2] + 1 and follows(give[1], last)]
                    named = [each for each in named if named.count(each) >= faults + 1]
                    expected = min(named) if named else None
                    self.assertEqual(catchup.due(last), expected)
                    counts["due" if named else "none"] += 1
        self.assertGreater(min(counts.values()), 200, counts)


if __name__ == "__main__":
    unittest.main()
