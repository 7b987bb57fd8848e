"""Point 103: the limits."""

import unittest

from oathledger import limits

TABLE = {
    "SPAN": 5,
    "STINT": 5,
    "MOST_FAULTS": 10,
    "MOST_CLIENTS": 100,
    "MOST_NUMBER": 1000000000000,
    "MOST_TEXT": 240,
    "MOST_ANSWER": 200,
    "MOST_STATE": 60000,
    "MOST_DIGITS": 60,
    "MOST_DEPTH": 12,
    "MOST_LENGTH": 100000,
}


class LimitsTest(unittest.TestCase):
    def test_values(self):
        for name, value in TABLE.items():
            with self.subTest(name):
                self.assertEqual(getattr(limits, name), value)
                self.assertIs(type(getattr(limits, name)), int)

    def test_no_other_limits(self):
        self.assertEqual({name for name in vars(limits) if not name.startswith("__")}, set(TABLE))


if __name__ == "__main__":
    unittest.main()
