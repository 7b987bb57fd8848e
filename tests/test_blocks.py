"""Points 116 to 119: blocks."""

import unittest

from oathledger.blocks import GENESIS, check_block, command_of, follows, is_block
from oathledger.errors import BadBlock
from tests.values import PERCENT, STRANGE, with_part

MOST = 10 ** 12
COMMANDS = ((-7, 1, "a"), (-5, 4, "b"), (-2, 9, "c"))
GOOD = (9, 4, 3, COMMANDS)


class BlockTest(unittest.TestCase):
    def assert_block(self, value, good):
        self.assertIs(is_block(value), good)
        if good:
            self.assertIs(check_block(value), value)
        else:
            with self.assertRaises(BadBlock):
                check_block(value)

    def test_genesis(self):
        self.assertEqual(GENESIS, (0, 0, 0, ()))
        self.assertEqual([type(part) for part in GENESIS], [int, int, int, tuple])
        self.assert_block(GENESIS, False)

    def test_epoch(self):
        for epoch in (1, 2, MOST - 1, MOST):
            self.assert_block((epoch, 0, 1, ()), True)
        for epoch in [0, -1, MOST + 1, 10 ** 30, "1", (1,)] + STRANGE:
            self.assert_block((epoch, 0, 1, ()), False)

    def test_parent(self):
        for parent in (1, 4, 7, 8):
            self.assert_block((9, parent, 2, ()), True)
        for parent in [-1, 9, 10, MOST, "4", (4,)] + STRANGE:
            self.assert_block((9, parent, 2, ()), False)
        for parent in [-1, 9] + STRANGE:
            self.assert_block((9, parent, 1, ()), False)
        self.assert_block((1, 1, 2, ()), False)
        self.assert_block((MOST, MOST - 1, 2, ()), True)

    def test_height_on_genesis(self):
        self.assert_block((9, 0, 1, ()), True)
        for height in [0, 2, -1, 9, MOST, "1", (1,)] + STRANGE:
            self.assert_block((9, 0, height, ()), False)

    def test_height_above_genesis(self):
        for parent in range(1, 9):
            for height in range(-1, 12):
                self.assert_block((9, parent, height, ()), 2 <= height <= parent + 1)
        for height in ["2", (2,)] + STRANGE:
            self.assert_block((9, 4, height, ()), False)
        self.assert_block((MOST, MOST - 1, MOST, ()), True)
        self.assert_block((MOST, MOST - 1, MOST + 1, ()), False)

    def test_commands(self):
        for commands in [(), COMMANDS, COMMANDS[:1], tuple((client, 1, "") for client in range(-100, 0))]:
            self.assert_block(with_part(GOOD, 3, commands), True)
        bad = [COMMANDS[::-1], COMMANDS + COMMANDS[2:], list(COMMANDS), ((-1, 0, ""),), ((-1, 1, PERCENT),),
               ((-1, 1, "a" * 241),), (1,), ((),), "", "a", 0, COMMANDS[0]]
        for commands in bad + STRANGE:
            self.assert_block(with_part(GOOD, 3, commands), False)

    def test_shape(self):
        self.assert_block(GOOD, True)
        for value in [(), GOOD[:3], GOOD[:1], GOOD + ((),), GOOD + (1,), list(GOOD), (GOOD,), "abcd", "", 4] + STRANGE:
            self.assert_block(value, False)

    def test_check_block_returns_the_value(self):
        value = (3, 0, 1, ())
        self.assertIs(check_block(value), value)


class FollowsTest(unittest.TestCase):
    def test_on_genesis(self):
        for epoch in (1, 2, 50):
            self.assertIs(follows((epoch, 0, 1, ()), GENESIS), True)
        self.assertIs(follows((3, 2, 2, ()), GENESIS), False)
        self.assertIs(follows((3, 1, 2, ()), GENESIS), False)

    def test_on_a_block(self):
        parent = (4, 1, 2, COMMANDS)
        for block, expected in [
            ((5, 4, 3, ()), True), ((9, 4, 3, COMMANDS), True), ((9, 4, 2, ()), False), ((9, 4, 4, ()), False),
            ((9, 3, 3, ()), False), ((9, 5, 3, ()), False), ((4, 1, 2, COMMANDS), False), ((9, 0, 1, ()), False),
        ]:
            self.assertIs(follows(block, parent), expected)

    def test_height_alone_and_epoch_alone(self):
        self.assertIs(follows((9, 5, 3, ()), (4, 3, 2, ())), False)
        self.assertIs(follows((9, 4, 3, ()), (4, 3, 4, ())), False)
        self.assertIs(follows((9, 4, 3, ()), (4, 2, 3, ())), False)
        self.assertIs(follows((9, 0, 1, ()), (4, 0, 1, ())), False)

    def test_genesis_follows_nothing(self):
        for parent in (GENESIS, (1, 0, 1, ())):
            self.assertIs(follows(GENESIS, parent), False)

    def test_values_that_are_no_blocks(self):
        block = (3, 0, 1, ())
        zeros = [(0, 1, 0, ()), (0, -1, 0, ()), (False, 0, 0, ()), (0, False, 0, ()), (0, 0, False, ()), (0.0, 0, 0, ()), (0, 0, 0, []), (0, 0, 0),
                 (0, 0, 0, (), ()), [0, 0, 0, ()], (0, 0, 0, ((-1, 1, ""),)), (0, 0, 0, None)]
        for value in zeros + STRANGE:
            self.assertIs(follows(block, value), False)
            self.assertIs(follows(value, GENESIS), False)
        self.assertIs(follows((3, 0, 1, []), GENESIS), False)
        self.assertIs(follows((3, 1, 2, ()), (1, 0, 1, [])), False)
        self.assertIs(follows((5, 4, 3, ()), (4, 0, 2, ())), False)


class CommandOfTest(unittest.TestCase):
    def test_command_of(self):
        block = (9, 0, 1, COMMANDS)
        for command in COMMANDS:
            self.assertEqual(command_of(block, command[0]), command)
        for client in (-100, -8, -6, -1):
            self.assertIsNone(command_of(block, client))

    def test_no_commands(self):
        self.assertIsNone(command_of((9, 0, 1, ()), -1))
        self.assertIsNone(command_of(GENESIS, -1))


class ExamplesTest(unittest.TestCase):
    def test_examples(self):
        self.assertIs(is_block((3, 0, 1, ((-2, 1, "a"), (-1, 4, "b")))), True)
        self.assertIs(is_block((3, 2, 1, ())), False)
        self.assertIs(follows((3, 0, 1, ()), GENESIS), True)


if __name__ == "__main__":
    unittest.main()
