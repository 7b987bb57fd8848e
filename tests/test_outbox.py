"""Points 514 (items 1 to 3) and 518: the letters that a machine sends, and their order."""

import unittest

from oathledger.groups import Group
from oathledger.outbox import answers, gives, repeats, to_others
from tests.values import block

A, B, C = block(3), block(5, 3, 2), block(6, 5, 3)


class ToOthersTest(unittest.TestCase):
    def test_ascending_without_the_machine_itself(self):
        letter = ("vote", A)
        self.assertEqual(to_others(Group(1), 0, letter), [(1, letter), (2, letter), (3, letter)])
        self.assertEqual(to_others(Group(1), 2, letter), [(0, letter), (1, letter), (3, letter)])
        self.assertEqual(to_others(Group(1), 3, letter), [(0, letter), (1, letter), (2, letter)])
        self.assertEqual([receiver for receiver, _ in to_others(Group(3), 4, letter)], [0, 1, 2, 3, 5, 6, 7, 8, 9])

    def test_a_group_of_one(self):
        self.assertEqual(to_others(Group(0), 0, ("claim", 0)), [])


class RepeatsTest(unittest.TestCase):
    def test_nothing_but_the_claim(self):
        self.assertEqual(repeats(Group(1), 1, [], [], [], 0), [(0, ("claim", 0)), (2, ("claim", 0)), (3, ("claim", 0))])

    def test_the_order(self):
        vouches = [(-7, 1, "b"), (-2, 3, "a")]
        found = repeats(Group(1), 0, vouches, [A, B], [C, A], 17)
        expected = [("vouch", vouches[0]), ("vouch", vouches[1]), ("vote", A), ("vote", B), ("ready", C), ("ready", A),
                    ("claim", 17)]
        self.assertEqual(found, [(receiver, letter) for letter in expected for receiver in (1, 2, 3)])

    def test_the_order_of_the_lists_is_kept(self):
        found = repeats(Group(1), 3, [(-2, 3, "a"), (-7, 1, "b")], [B, A], [A, C], 0)
        letters = [letter for receiver, letter in found if receiver == 1]
        self.assertEqual(letters, [("vouch", (-2, 3, "a")), ("vouch", (-7, 1, "b")), ("vote", B), ("vote", A), ("ready", A),
                                   ("ready", C), ("claim", 0)])

    def test_a_group_of_one(self):
        self.assertEqual(repeats(Group(0), 0, [(-1, 1, "a")], [A], [A], 2), [])


class GivesTest(unittest.TestCase):
    def test_each_height(self):
        blocks = [A, B, C]
        every = [(2, ("give", 1, A)), (2, ("give", 2, B)), (2, ("give", 3, C))]
        for height in range(5):
            self.assertEqual(gives(2, blocks, height), every[height:])
        self.assertEqual(gives(2, [], 0), [])

    def test_the_order_of_the_list_is_kept(self):
        self.assertEqual(gives(0, [C, A, B], 1), [(0, ("give", 3, C)), (0, ("give", 2, B))])


class AnswersTest(unittest.TestCase):
    def test_rows(self):
        self.assertEqual(answers([]), [])
        rows = [(-7, 3, "ok;ok"), (-9, 1, ""), (-7, 4, "stale")]
        self.assertEqual(answers(rows), [(-7, ("answer", 3, "ok;ok")), (-9, ("answer", 1, "")), (-7, ("answer", 4, "stale"))])


if __name__ == "__main__":
    unittest.main()
