"""Point 411: what is remembered of clients."""

import unittest

from oathledger.errors import BadCommand
from oathledger.sessions import Sessions


def with_clients():
    sessions = Sessions()
    for client, number, answer in ((-3, 1, "ok"), (-70, 5, ""), (-1, 10 ** 12, "a b"), (-3, 4, "stale")):
        sessions.remember(client, number, answer)
    return sessions


ROWS = [(-70, 5, ""), (-3, 4, "stale"), (-1, 10 ** 12, "a b")]


class SessionsTest(unittest.TestCase):
    def test_empty(self):
        sessions = Sessions()
        self.assertEqual((sessions.last(-1), sessions.answer(-1), sessions.rows(), sessions.numbers()), (0, "", [], {}))

    def test_what_is_told(self):
        sessions = with_clients()
        self.assertEqual(sessions.rows(), ROWS)
        self.assertEqual(sessions.numbers(), {-70: 5, -3: 4, -1: 10 ** 12})
        self.assertEqual([sessions.last(client) for client in (-70, -3, -1, -2)], [5, 4, 10 ** 12, 0])
        self.assertEqual([sessions.answer(client) for client in (-70, -3, -1, -2)], ["", "stale", "a b", ""])

    def test_remember(self):
        sessions = with_clients()
        self.assertIsNone(sessions.remember(-3, 5, "x"))
        self.assertIsNone(sessions.remember(-2, 1, "y"))
        self.assertEqual(sessions.rows(), [(-70, 5, ""), (-3, 5, "x"), (-2, 1, "y"), (-1, 10 ** 12, "a b")])

    def test_numbers_that_are_not_greater(self):
        sessions = with_clients()
        for client, number in ((-3, 4), (-3, 3), (-3, 1), (-70, 5), (-1, 10 ** 12), (-2, 0), (-2, -1)):
            with self.assertRaises(BadCommand) as caught:
                sessions.remember(client, number, "new")
            self.assertEqual((caught.exception.reason, caught.exception.statement), ("number", 0))
            self.assertEqual(sessions.rows(), ROWS)

    def test_lists_are_the_callers(self):
        sessions = with_clients()
        sessions.rows().clear()
        sessions.numbers()[-3] = 90
        self.assertEqual((sessions.rows(), sessions.last(-3)), (ROWS, 4))

    def test_clone(self):
        for client, number in ((-3, 5), (-2, 1)):
            sessions = with_clients()
            other = sessions.clone()
            self.assertEqual(other.rows(), ROWS)
            other.remember(client, number, "n")
            self.assertEqual(sessions.rows(), ROWS)
            after = other.rows()
            self.assertIn((client, number, "n"), after)
            sessions.remember(client, number, "m")
            self.assertEqual(other.rows(), after)


if __name__ == "__main__":
    unittest.main()
