"""Points 608 and 611: acts, as far as they do not depend on the world."""

import unittest

from oathledger.acts import MOST_TICKS, check_act, survivors
from oathledger.errors import BadSchedule
from tests.values import STRANGE, with_part

MOST = 10 ** 12
ACTS = [
    ("tick", 1), ("submit", -1, "open ann"), ("deliver", 0), ("round",), ("calm", 1), ("lose", 3), ("double", 3), ("move", 3),
    ("say", 3, 0, ("claim", 0)), ("arm", 0, 5), ("crash", 2), ("restart", 2, 7),
]
# The index of the number of each kind of act that has one, and its least and its greatest value.
NUMBERS = {"tick": (1, 1, 1000), "calm": (1, 1, 1000), "deliver": (1, 0, MOST), "lose": (1, 0, MOST), "double": (1, 0, MOST),
           "move": (1, 0, MOST), "arm": (2, 0, MOST), "restart": (2, 0, MOST)}


class CheckTest(unittest.TestCase):
    def assert_refused(self, act, reason):
        with self.assertRaises(BadSchedule) as caught:
            check_act(act)
        self.assertEqual((caught.exception.line, caught.exception.reason), (0, reason), act)

    def test_the_constant(self):
        self.assertEqual(MOST_TICKS, 1000)

    def test_each_kind(self):
        for act in ACTS:
            self.assertIsNone(check_act(act))

    def test_values_that_are_no_tuples(self):
        for act in STRANGE + ["tick", 5, "", "round"] + [list(act) for act in ACTS]:
            self.assert_refused(act, "act")

    def test_kinds_that_are_none(self):
        for act in ACTS:
            for kind in STRANGE + ["", "ticks", "Tick", "world", "tick ", 5, ("tick",), -1]:
                self.assert_refused(with_part(act, 0, kind), "act")
        self.assert_refused((), "act")

    def test_an_item_too_many_or_too_few(self):
        for act in ACTS:
            self.assert_refused(act + (1,), "act")
            self.assert_refused(act + (None,), "act")
            if len(act) > 1:
                self.assert_refused(act[:-1], "act")
                self.assert_refused(act[:1], "act")

    def test_numbers_at_and_beside_their_bounds(self):
        for act in ACTS:
            if act[0] in NUMBERS:
                at, least, greatest = NUMBERS[act[0]]
                for good in (least, least + 1, 500, greatest - 1, greatest):
                    self.assertIsNone(check_act(with_part(act, at, good)))
                for bad in (least - 1, -1, -MOST, greatest + 1, MOST + 1, 10 ** 5000):
                    self.assert_refused(with_part(act, at, bad), "number")

    def test_numbers_that_are_none(self):
        for act in ACTS:
            if act[0] in NUMBERS:
                for bad in STRANGE + ["1", "", (1,), 1.0]:
                    self.assert_refused(with_part(act, NUMBERS[act[0]][0], bad), "number")

    def test_other_items_are_not_looked_at(self):
        for odd in STRANGE + ["x", -5, MOST + 1]:
            for act in (("submit", odd, odd), ("say", odd, odd, odd), ("arm", odd, 5), ("crash", odd), ("restart", odd, 0)):
                self.assertIsNone(check_act(act))

    def test_which_reason_decides(self):
        self.assert_refused(("tick", 0, 0), "act")
        self.assert_refused(["tick", 0], "act")
        self.assert_refused(("arm", None, -1), "number")


class SurvivorsTest(unittest.TestCase):
    def test_each_small_keep(self):
        for keep in range(70):
            for count in range(9):
                self.assertEqual(survivors(keep, count), [keep // 2 ** k & 1 == 1 for k in range(count)])

    def test_plain_cases(self):
        self.assertEqual(survivors(6, 4), [False, True, True, False])
        self.assertEqual(survivors(1, 3), [True, False, False])
        self.assertEqual(survivors(0, 3), [False, False, False])
        self.assertEqual(survivors(255, 3), [True, True, True])

    def test_the_greatest_keep(self):
        flags = survivors(MOST, 60)
        self.assertEqual(sum(2 ** k for k in range(60) if flags[k]), MOST)
        self.assertEqual({type(flag) for flag in flags}, {bool})

    def test_a_count_of_0(self):
        self.assertEqual([survivors(keep, 0) for keep in (0, 1, MOST)], [[], [], []])


if __name__ == "__main__":
    unittest.main()
