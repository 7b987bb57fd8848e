"""Points 113 to 115: commands."""

import unittest

from oathledger.requests import all_fresh, is_command, is_command_list, last_number, numbers_after
from tests.values import PERCENT, STRANGE, with_part

MOST = 10 ** 12
GOOD = (-3, 5, "pay ann")


class CommandTest(unittest.TestCase):
    def assert_part(self, at, good, bad):
        for part in good:
            self.assertIs(is_command(with_part(GOOD, at, part)), True)
        for part in bad:
            self.assertIs(is_command(with_part(GOOD, at, part)), False)

    def test_client(self):
        self.assert_part(0, [-1, -2, -50, -99, -100], [0, 1, 3, -101, -1000, "-1", (-1,)] + STRANGE)

    def test_number(self):
        self.assert_part(1, [1, 2, MOST - 1, MOST], [0, -1, MOST + 1, 10 ** 30, "1", (1,)] + STRANGE)

    def test_text(self):
        good = ["", "a", "open ann;close ann", " ", ";;", "~" * 240]
        bad = ["a" * 241, "a" * 100000, "a\n", "\t", PERCENT, "a" + PERCENT, "\xe9", 1, ("a",), ()] + STRANGE
        self.assert_part(2, good, bad)

    def test_shape(self):
        self.assertIs(is_command(GOOD), True)
        for value in [(), GOOD[:2], GOOD[:1], GOOD + (1,), GOOD + ("a",), list(GOOD), (GOOD,), "abc", "", 3] + STRANGE:
            self.assertIs(is_command(value), False)


class CommandListTest(unittest.TestCase):
    def test_good(self):
        everybody = tuple((client, 1, "a") for client in range(-100, 0))
        for value in [(), (GOOD,), ((-7, 1, "a"), (-2, 1, "a")), ((-100, 3, ""), (-2, 2, ""), (-1, 1, "")), everybody]:
            self.assertIs(is_command_list(value), True)

    def test_equal_and_descending_clients(self):
        first, second, third = (-7, 1, "a"), (-2, 2, "b"), (-1, 3, "c")
        for value in [(second, first), (first, first), (first, (-7, 2, "b")), (first, third, second),
                      (second, first, third), (first, second, second), (first, second, third, first),
                      (third, first), (third, second, first)]:
            self.assertIs(is_command_list(value), False)

    def test_bad_command_at_any_place(self):
        commands = ((-7, 1, "a"), (-5, 1, "a"), (-2, 1, "a"))
        for at in range(3):
            client = commands[at][0]
            bad = [(client, 0, "a"), (client, True, "a"), (client, 1, "a\n"), [client, 1, "a"], (client, 1), (), "abc"]
            for command in bad + STRANGE:
                self.assertIs(is_command_list(with_part(commands, at, command)), False)
        self.assertIs(is_command_list(((-101, 1, "a"), (-5, 1, "a"))), False)
        self.assertIs(is_command_list(((-5, 1, "a"), (0, 1, "a"))), False)

    def test_shape(self):
        for value in [[GOOD], GOOD, "ab", "", 5, {GOOD: 1}] + STRANGE:
            self.assertIs(is_command_list(value), False)


class NumbersTest(unittest.TestCase):
    LAST = {-7: 3, -2: 1, -1: MOST}

    def test_last_number(self):
        self.assertEqual([last_number(self.LAST, client) for client in (-8, -7, -2, -1)], [0, 3, 1, MOST])
        self.assertEqual(last_number({}, -1), 0)

    def test_all_fresh(self):
        cases = [
            ((), True),
            (((-7, 4, "a"),), True),
            (((-7, 100, "a"),), True),
            (((-7, 3, "a"),), False),
            (((-7, 2, "a"),), False),
            (((-8, 1, "a"),), True),
            (((-1, MOST, "a"),), False),
            (((-8, 1, "a"), (-7, 4, "a"), (-2, 2, "a")), True),
            (((-8, 1, "a"), (-7, 3, "a"), (-2, 2, "a")), False),
            (((-8, 1, "a"), (-7, 4, "a"), (-2, 1, "a")), False),
            (((-7, 3, "a"), (-2, 2, "a")), False),
        ]
        for commands, fresh in cases:
            last = dict(self.LAST)
            self.assertIs(all_fresh(last, commands), fresh)
            self.assertEqual(last, self.LAST)
        self.assertIs(all_fresh({}, ((-1, 1, ""),)), True)

    def test_numbers_after(self):
        cases = [
            ((), {-7: 3, -2: 1}),
            (((-7, 4, "a"),), {-7: 4, -2: 1}),
            (((-9, 8, "a"), (-7, 9, "b")), {-9: 8, -7: 9, -2: 1}),
            (((-7, 1, "a"), (-2, 1, "b")), {-7: 1, -2: 1}),
        ]
        for commands, expected in cases:
            last = {-7: 3, -2: 1}
            numbers = numbers_after(last, commands)
            self.assertEqual(numbers, expected)
            self.assertEqual(last, {-7: 3, -2: 1})

    def test_numbers_after_is_a_new_dict(self):
        last = {-7: 3}
        numbers = numbers_after(last, ())
        numbers[-7] = 8
        numbers[-1] = 1
        self.assertEqual(last, {-7: 3})
        self.assertEqual(numbers_after({}, ()), {})


if __name__ == "__main__":
    unittest.main()
