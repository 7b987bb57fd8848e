"""Points 120 to 122: letters."""

import unittest

from oathledger.blocks import GENESIS
from oathledger.errors import BadLetter
from oathledger.groups import Group
from oathledger.letters import check_letter, is_letter, route
from tests.values import PERCENT, STRANGE, with_part

MOST = 10 ** 12
COMMAND = (-3, 5, "pay ann")
BLOCK = (9, 4, 3, (COMMAND,))
BETWEEN = [
    ("vouch", COMMAND), ("propose", BLOCK), ("vote", BLOCK), ("ready", BLOCK), ("claim", 7), ("give", 3, BLOCK),
]
REQUEST = ("command", 5, "pay ann")
ANSWER = ("answer", 5, "ok")
ALL = BETWEEN + [REQUEST, ANSWER]
BAD_BLOCKS = [GENESIS, (9, 4, 1, ()), (9, 9, 3, ()), (9, 4, 3, []), (9, 4, 3), list(BLOCK), BLOCK + (1,), (), 3, "b"]
BAD_NUMBERS = [0, -1, MOST + 1, 10 ** 30, "1", (1,)]


class LetterTest(unittest.TestCase):
    def assert_letter(self, value, good):
        self.assertIs(is_letter(value), good)
        if not good:
            with self.assertRaises(BadLetter):
                route(value)
            for sender, receiver in ((0, 1), (-1, 1), (1, -1)):
                with self.assertRaises(BadLetter):
                    check_letter(Group(1), sender, receiver, value)

    def test_good_letters(self):
        for letter in ALL:
            self.assert_letter(letter, True)

    def test_vouch(self):
        for command in [(-1, 1, ""), (-100, MOST, "a" * 240)]:
            self.assert_letter(("vouch", command), True)
        bad = [(0, 1, "a"), (-101, 1, "a"), (-1, 0, "a"), (-1, True, "a"), (-1, MOST + 1, "a"), (-1, 1, "a" * 241),
               (-1, 1, PERCENT), [-1, 1, "a"], (-1, 1), (), BLOCK, 5, "a"]
        for command in bad + STRANGE:
            self.assert_letter(("vouch", command), False)

    def test_blocks(self):
        for kind in ("propose", "vote", "ready"):
            for block in [(1, 0, 1, ()), BLOCK, (MOST, MOST - 1, MOST, ())]:
                self.assert_letter((kind, block), True)
            for block in BAD_BLOCKS + [COMMAND] + STRANGE:
                self.assert_letter((kind, block), False)

    def test_claim(self):
        for height in (0, 1, MOST - 1, MOST):
            self.assert_letter(("claim", height), True)
        for height in [-1, MOST + 1, "0", (0,), BLOCK] + STRANGE:
            self.assert_letter(("claim", height), False)

    def test_give(self):
        for block in [(1, 0, 1, ()), BLOCK, (MOST, MOST - 1, MOST, ())]:
            self.assert_letter(("give", block[2], block), True)
            for height in [block[2] - 1, block[2] + 1, 0, -1, "1", (1,), block] + STRANGE:
                self.assert_letter(("give", height, block), False)
        for block in BAD_BLOCKS + STRANGE:
            for height in (0, 1, 3):
                self.assert_letter(("give", height, block), False)

    def test_numbers(self):
        for kind in ("command", "answer"):
            for number in (1, 2, MOST):
                self.assert_letter((kind, number, "a"), True)
            for number in BAD_NUMBERS + STRANGE:
                self.assert_letter((kind, number, "a"), False)

    def test_texts(self):
        for kind, most in (("command", 240), ("answer", 200)):
            for text in ("", "a", " ; ", "a" * (most - 1), "~" * most):
                self.assert_letter((kind, 1, text), True)
            for text in ["a" * (most + 1), "a" * 100000, "\n", "a\t", PERCENT, "\xe9", 1, ("a",)] + STRANGE:
                self.assert_letter((kind, 1, text), False)

    def test_other_kinds(self):
        for letter in ALL:
            for kind in ["", "Vote", "votes", "vot", "notarize", 1, 0, ("vote",), b"vote"] + STRANGE:
                self.assert_letter(with_part(letter, 0, kind), False)
        self.assert_letter(("vote", 3, BLOCK), False)
        self.assert_letter(("give", BLOCK), False)
        self.assert_letter(("claim", BLOCK), False)
        self.assert_letter(("command", COMMAND), False)
        self.assert_letter(("vouch", 5, "pay ann"), False)

    def test_shape(self):
        for letter in ALL:
            for value in (letter[:-1], letter[:1], letter[1:], letter + (1,), letter + (letter[-1],), list(letter),
                          (letter,), letter[0]):
                self.assert_letter(value, False)
        for value in [(), "", "vote", 1, 0] + STRANGE:
            self.assert_letter(value, False)


class RouteTest(unittest.TestCase):
    def test_routes(self):
        for letter in BETWEEN:
            self.assertEqual(route(letter), "machine")
        self.assertEqual(route(REQUEST), "to_machine")
        self.assertEqual(route(ANSWER), "to_client")


class CheckLetterTest(unittest.TestCase):
    def machines(self, group):
        """Values, and whether they are machines of the group."""
        good = [(value, True) for value in group.members()]
        bad = [-1, -2, -100, group.machines, group.machines + 1, MOST, "0", (0,)] + STRANGE
        return good + [(value, False) for value in bad]

    def clients(self):
        """Values, and whether they are clients."""
        good = [(value, True) for value in (-1, -2, -99, -100)]
        return good + [(value, False) for value in [0, 1, 3, -101, -MOST, "-1", (-1,)] + STRANGE]

    def assert_checked(self, group, senders, receivers, letter):
        for sender, good_sender in senders:
            for receiver, good_receiver in receivers:
                if good_sender and good_receiver:
                    self.assertIs(check_letter(group, sender, receiver, letter), letter)
                else:
                    with self.assertRaises(BadLetter):
                        check_letter(group, sender, receiver, letter)

    def test_senders_and_receivers(self):
        for faults in (0, 1, 3):
            group = Group(faults)
            for letter in BETWEEN:
                self.assert_checked(group, self.machines(group), self.machines(group), letter)
            self.assert_checked(group, self.clients(), self.machines(group), REQUEST)
            self.assert_checked(group, self.machines(group), self.clients(), ANSWER)

    def test_to_itself(self):
        self.assertEqual(check_letter(Group(1), 2, 2, ("claim", 0)), ("claim", 0))

    def test_unknown_commands_are_not_asked(self):
        letter = ("vouch", (-77, 3, "no such"))
        self.assertEqual(check_letter(Group(0), 0, 0, letter), letter)


if __name__ == "__main__":
    unittest.main()
