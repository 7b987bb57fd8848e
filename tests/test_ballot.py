"""Points 309 and 310: the ballot, and what a machine may vote for."""

import copy
import unittest

from oathledger.ballot import Ballot, may_vote, numbers_along
from oathledger.blocks import GENESIS
from oathledger.chain import Chain
from oathledger.errors import BadBlock
from tests.values import block, with_part


def told(ballot):
    return ballot.last(), ballot.floor(), ballot.blocks()


class BallotTest(unittest.TestCase):
    def test_no_votes(self):
        self.assertEqual(told(Ballot([])), (0, 0, []))

    def test_votes_that_are_given(self):
        blocks = [(3, 0, 1, ()), (5, 4, 4, ()), (6, 3, 2, ())]
        self.assertEqual(told(Ballot(blocks)), (6, 3, blocks))

    def test_record(self):
        ballot = Ballot([])
        steps = [((3, 0, 1, ()), 3, 0), ((4, 3, 2, ()), 4, 1), ((9, 8, 7, ()), 9, 6), ((10, 4, 3, ()), 10, 6)]
        for count, (each, last, floor) in enumerate(steps):
            self.assertIsNone(ballot.record(each))
            self.assertEqual(told(ballot), (last, floor, [step[0] for step in steps[:count + 1]]))

    def test_epochs_of_a_record(self):
        ballot = Ballot([block(3), block(7)])
        before = told(ballot)
        for epoch in (1, 3, 6, 7):
            for bad in (block(epoch), (epoch, epoch - 1, epoch, ()) if epoch > 1 else block(1)):
                with self.assertRaises(BadBlock):
                    ballot.record(bad)
                self.assertEqual(told(ballot), before)
        ballot.record(block(8))
        self.assertEqual(ballot.last(), 8)

    def test_epochs_that_do_not_ascend(self):
        for epochs in ([3, 3], [3, 2], [1, 4, 4], [1, 4, 2], [5, 1, 6]):
            with self.assertRaises(BadBlock):
                Ballot([block(epoch) for epoch in epochs])

    def test_restore(self):
        for epoch, floor, last, least in [(9, 9, 9, 9), (9, 1, 9, 3), (2, 9, 5, 9), (2, 1, 5, 3), (5, 3, 5, 3), (0, 0, 5, 3),
                                          (6, 4, 6, 4)]:
            ballot = Ballot([(5, 4, 4, ())])
            self.assertIsNone(ballot.restore(epoch, floor))
            self.assertEqual(told(ballot), (last, least, [(5, 4, 4, ())]))

    def test_restore_twice(self):
        ballot = Ballot([])
        ballot.restore(8, 2)
        ballot.restore(6, 5)
        self.assertEqual(told(ballot), (8, 5, []))
        with self.assertRaises(BadBlock):
            ballot.record(block(8))
        ballot.record((9, 8, 3, ()))
        self.assertEqual(told(ballot), (9, 5, [(9, 8, 3, ())]))
        ballot.record((10, 8, 7, ()))
        self.assertEqual(told(ballot), (10, 6, [(9, 8, 3, ()), (10, 8, 7, ())]))

    def test_lists_are_the_callers(self):
        blocks = [block(3)]
        ballot = Ballot(blocks)
        blocks.append(block(4))
        ballot.blocks().append(block(5))
        self.assertEqual(told(ballot), (3, 0, [block(3)]))
        ballot.record(block(6))
        self.assertEqual(blocks, [block(3), block(4)])


class NumbersAlongTest(unittest.TestCase):
    def test_numbers(self):
        path = [(3, 0, 1, ((-7, 4, "a"), (-2, 1, "b"))), (4, 3, 2, ()), (5, 4, 3, ((-7, 6, "c"), (-1, 9, "d")))]
        self.assertEqual(numbers_along({}, path), {-7: 6, -2: 1, -1: 9})
        self.assertEqual(numbers_along({-7: 3, -9: 2}, path), {-7: 6, -2: 1, -1: 9, -9: 2})
        self.assertEqual(numbers_along({-7: 3}, path[:2]), {-7: 4, -2: 1})

    def test_the_last_command_counts(self):
        path = [(3, 0, 1, ((-7, 4, "a"),)), (4, 3, 2, ((-7, 2, "b"),))]
        self.assertEqual(numbers_along({-7: 9}, path), {-7: 2})
        self.assertEqual(numbers_along({-7: 9}, path[::-1]), {-7: 4})

    def test_a_new_dict(self):
        numbers = {-7: 3}
        for path in ([], [(3, 0, 1, ())], [(3, 0, 1, ((-7, 4, "a"),))]):
            found = numbers_along(numbers, path)
            found[-1] = 5
            self.assertEqual(numbers, {-7: 3})
        self.assertEqual(numbers_along(numbers, []), {-7: 3})


ROOT = (10, 9, 5, ())
TIP = (12, 10, 6, ((-3, 8, "p"),))
LOW = (13, 10, 6, ())
NUMBERS = {-3: 4, -2: 2}
KNOWN = [(-4, 1, "k"), (-3, 9, "l"), (-2, 3, "m"), (-1, 1, "n")]
GOOD = (20, 12, 7, ((-3, 9, "l"), (-1, 1, "n")))


def voting(last=19, floor=6):
    """A chain and a ballot."""
    chain = Chain(ROOT)
    chain.insert(TIP)
    ballot = Ballot([])
    ballot.restore(last, floor)
    return chain, ballot


def may(each, epoch=20, known=tuple(KNOWN), last=19, floor=6, numbers=None):
    chain, ballot = voting(last, floor)
    return may_vote(each, epoch, chain, ballot, list(known), NUMBERS if numbers is None else numbers)


class MayVoteTest(unittest.TestCase):
    def test_all_hold(self):
        self.assertIs(may(GOOD), True)
        self.assertIs(may(with_part(GOOD, 3, ())), True)
        chain = Chain(GENESIS)
        self.assertIs(may_vote((1, 0, 1, ()), 1, chain, Ballot([]), [], {}), True)

    def test_epoch(self):
        self.assertIs(may(GOOD, 19), False)
        self.assertIs(may(GOOD, 21), False)
        self.assertIs(may(GOOD, last=20), False)
        self.assertIs(may(GOOD, last=21), False)
        self.assertIs(may(GOOD, last=0), True)

    def test_parent(self):
        for parent, height in ((11, 7), (19, 7), (9, 6), (0, 1), (12, 8), (12, 6), (10, 7)):
            self.assertIs(may((20, parent, height, ())), False, (parent, height))

    def test_waiting_parent(self):
        chain, ballot = voting()
        chain.insert((15, 14, 6, ()))
        self.assertIs(may_vote((20, 15, 7, ()), 20, chain, ballot, [], {}), False)

    def test_parent_below_the_tip(self):
        self.assertIs(may((20, 10, 6, ()), floor=0), False)
        chain = Chain(ROOT)
        self.assertIs(may_vote((20, 10, 6, ()), 20, chain, Ballot([]), [], {}), True)

    def test_parent_as_high_as_the_tip(self):
        chain, ballot = voting()
        chain.insert(LOW)
        self.assertEqual(chain.tip(), LOW)
        for each in (GOOD, with_part(GOOD, 1, 13)):
            self.assertIs(may_vote(each, 20, chain, ballot, KNOWN, NUMBERS), True)

    def test_floor(self):
        self.assertIs(may(GOOD, floor=7), False)
        self.assertIs(may(GOOD, floor=6), True)
        self.assertIs(may(GOOD, floor=0), True)

    def test_known(self):
        self.assertIs(may(GOOD, known=KNOWN[1:]), True)
        for missing in (1, 3):
            self.assertIs(may(GOOD, known=KNOWN[:missing] + KNOWN[missing + 1:]), False)
        self.assertIs(may(GOOD, known=[]), False)
        for other in ((-3, 9, "k"), (-3, 10, "l"), (-4, 9, "l")):
            self.assertIs(may(GOOD, known=[other, (-1, 1, "n")]), False)
        self.assertIs(may(with_part(GOOD, 3, ()), known=[]), True)

    def test_numbers_on_the_path(self):
        for number, good in ((7, False), (8, False), (9, True), (90, True)):
            command = (-3, number, "l")
            self.assertIs(may((20, 12, 7, (command,)), known=[command]), good)

    def test_numbers_at_the_root(self):
        for number, good in ((1, False), (2, False), (3, True), (4, True)):
            command = (-2, number, "l")
            self.assertIs(may((20, 12, 7, (command,)), known=[command]), good)
        command = (-3, 5, "l")
        chain = Chain(ROOT)
        self.assertIs(may_vote((20, 10, 6, (command,)), 20, chain, Ballot([]), [command], NUMBERS), True)
        self.assertIs(may_vote((20, 10, 6, (command,)), 20, chain, Ballot([]), [command], {-3: 5}), False)

    def test_one_of_the_numbers(self):
        commands = ((-3, 9, "l"), (-2, 2, "m"))
        self.assertIs(may((20, 12, 7, commands), known=commands), False)
        self.assertIs(may((20, 12, 7, ((-3, 8, "l"), (-2, 3, "m"))), known=[(-3, 8, "l"), (-2, 3, "m")]), False)

    def test_other_lines_do_not_count(self):
        chain, ballot = voting()
        chain.insert((13, 10, 6, ((-1, 1, "n"),)))
        self.assertIs(may_vote(GOOD, 20, chain, ballot, KNOWN, NUMBERS), True)
        self.assertIs(may_vote(with_part(GOOD, 1, 13), 20, chain, ballot, KNOWN, NUMBERS), False)

    def test_arguments_stay(self):
        chain, ballot = voting()
        known, numbers = list(KNOWN), dict(NUMBERS)
        before = copy.deepcopy((vars(chain), told(ballot)))
        for each in (GOOD, with_part(GOOD, 0, 21), with_part(GOOD, 1, 11)):
            may_vote(each, 20, chain, ballot, known, numbers)
        self.assertEqual((known, numbers), (KNOWN, NUMBERS))
        self.assertEqual((vars(chain), told(ballot)), before)


if __name__ == "__main__":
    unittest.main()
