"""Points 104 to 106: groups, epochs and leaders."""

import itertools
import unittest

from oathledger.errors import BadGroup
from oathledger.groups import Group, epoch_of, first_tick
from tests.values import STRANGE

MOST = 10 ** 12
BAD_NUMBERS = [-1, -MOST, MOST + 1, 10 ** 30, "0", "", (0,), ()] + STRANGE


class GroupTest(unittest.TestCase):
    def test_sizes(self):
        for faults in range(11):
            with self.subTest(faults):
                group = Group(faults)
                self.assertEqual(group.faults, faults)
                self.assertEqual(group.machines, 3 * faults + 1)
                self.assertEqual(group.quorum, 2 * faults + 1)
                self.assertEqual(group.blocking, faults + 1)
                self.assertEqual(group.members(), list(range(3 * faults + 1)))

    def test_bad_faults(self):
        for faults in [-1, 11, 12, 10 ** 40, "1", "", (1,), ()] + STRANGE:
            with self.subTest(repr_of(faults)):
                with self.assertRaises(BadGroup):
                    Group(faults)

    def test_bad_faults_after_good_ones(self):
        for faults in range(11):
            Group(faults)
        for faults in (True, False, None, 1.0, 0.0, "1", (1,), -1, 11):
            with self.subTest(repr_of(faults)):
                with self.assertRaises(BadGroup):
                    Group(faults)
        self.assertEqual(Group(1).machines, 4)

    def test_members_is_a_new_list(self):
        group = Group(1)
        members = group.members()
        members.append(9)
        members[0] = 7
        self.assertEqual(group.members(), [0, 1, 2, 3])
        self.assertEqual(Group(1).members(), [0, 1, 2, 3])
        self.assertEqual(group.machines, 4)

    def test_groups_side_by_side(self):
        small, great = Group(0), Group(10)
        self.assertEqual((small.machines, great.machines), (1, 31))
        self.assertEqual((small.members(), len(great.members())), ([0], 31))

    def test_is_member(self):
        for faults in range(11):
            group = Group(faults)
            for value in range(-3, 3 * faults + 5):
                self.assertIs(group.is_member(value), 0 <= value <= 3 * faults)
            for value in ["0", (0,), 10 ** 20] + STRANGE:
                self.assertIs(group.is_member(value), False)

    def test_sets_of_members(self):
        for faults in range(11):
            group = Group(faults)
            self.assertGreaterEqual(2 * group.quorum - group.machines, group.blocking)
            self.assertGreater(group.blocking, group.faults)
            self.assertGreaterEqual(group.machines - group.faults, group.quorum)

    def test_sets_of_members_one_by_one(self):
        for faults in range(3):
            group = Group(faults)
            quorums = [set(each) for each in itertools.combinations(group.members(), group.quorum)]
            for first, second in itertools.combinations(quorums, 2):
                self.assertGreaterEqual(len(first & second), group.blocking)
            for blocking in itertools.combinations(group.members(), group.blocking):
                for faulty in itertools.combinations(group.members(), group.faults):
                    self.assertTrue(set(blocking) - set(faulty))


class EpochTest(unittest.TestCase):
    def test_epoch_of(self):
        for time in range(60):
            self.assertEqual(epoch_of(time), time // 5)
        self.assertEqual(epoch_of(MOST), MOST // 5)
        self.assertEqual(epoch_of(MOST - 1), MOST // 5 - 1)

    def test_first_tick(self):
        for epoch in range(60):
            self.assertEqual(first_tick(epoch), 5 * epoch)
            self.assertEqual(epoch_of(first_tick(epoch)), epoch)
            if epoch > 0:
                self.assertEqual(epoch_of(first_tick(epoch) - 1), epoch - 1)
        self.assertEqual(first_tick(MOST), 5 * MOST)

    def test_bad_numbers(self):
        group = Group(1)
        for good in (0, 1):
            epoch_of(good)
            first_tick(good)
            group.leader(good)
        for value in BAD_NUMBERS:
            for ask in (epoch_of, first_tick, group.leader):
                with self.subTest(ask=ask.__name__, value=repr_of(value)):
                    with self.assertRaises(BadGroup):
                        ask(value)

    def test_nobody_leads_epoch_0(self):
        for faults in range(11):
            self.assertIsNone(Group(faults).leader(0))

    def test_leaders(self):
        for faults in range(11):
            group = Group(faults)
            leaders = [group.leader(epoch) for epoch in range(1, 1000)]
            rounds = [machine for machine in group.members() for _ in range(5)]
            expected = (rounds * (1000 // len(rounds) + 1))[1:1000]
            self.assertEqual(leaders, expected)

    def test_leaders_far_away(self):
        for faults in range(11):
            self.assertEqual(Group(faults).leader(MOST), (MOST // 5) % (3 * faults + 1))

    def test_examples(self):
        group = Group(1)
        self.assertEqual((group.machines, group.quorum, group.blocking), (4, 3, 2))
        self.assertEqual(group.members(), [0, 1, 2, 3])
        self.assertEqual((group.leader(0), group.leader(4), group.leader(5), group.leader(20)), (None, 0, 1, 0))


def repr_of(value):
    """A text for any value."""
    return f"{type(value).__name__} {value if isinstance(value, (int, str, float)) else ''}"


if __name__ == "__main__":
    unittest.main()
