"""Points 401, 403 and 405: the statements and words of command texts."""

import unittest

from oathledger.errors import BadCommand
from oathledger.tokens import is_amount, is_key, is_name, is_value, statements
from tests.values import PERCENT

PRINTABLE = "".join(chr(code) for code in range(32, 127) if code != 37)
NOT_PRINTABLE = [chr(code) for code in (0, 9, 10, 13, 31, 37, 127, 128, 160, 233, 0x661, 0x2028, 0x1F600)]


class WrongText(unittest.TestCase):
    """What both functions that read command texts need; it has no tests of its own."""

    def assert_bad(self, read, text, reason, statement):
        with self.assertRaises(BadCommand) as caught:
            read(text)
        self.assertEqual((caught.exception.reason, caught.exception.statement), (reason, statement), text)


class StatementsTest(WrongText):
    def test_statements(self):
        cases = {
            "open ann;balance ann": [["open", "ann"], ["balance", "ann"]],
            "a": [["a"]],
            "a;b;c d e": [["a"], ["b"], ["c", "d", "e"]],
            "put k v-1,:!": [["put", "k", "v-1,:!"]],
            # The words are not looked at here.
            "Foo 007 _": [["Foo", "007", "_"]],
        }
        for text, expected in cases.items():
            self.assertEqual(statements(text), expected)

    def test_longest(self):
        for text in ("a" * 240, "a;" * 119 + "bb", "a " * 119 + "bb"):
            self.assertEqual(len(text), 240)
            self.assertEqual(";".join(" ".join(words) for words in statements(text)), text)
            self.assert_bad(statements, text + "c", "long", 0)
            self.assert_bad(statements, text * 1000, "long", 0)

    def test_character(self):
        self.assertEqual(statements("".join(PRINTABLE.split(" ")).replace(";", "")), [[PRINTABLE.replace(" ", "").replace(";", "")]])
        for bad in NOT_PRINTABLE:
            for text in (bad, "a" + bad, bad + "a", "a;b " + bad + " c", "a b;" + bad):
                self.assert_bad(statements, text, "character", 0)

    def test_empty(self):
        for text, statement in [("", 0), (";", 0), (";a", 0), ("a;", 1), ("a;;b", 1), (";;", 0), ("a;b;;c", 2), ("a;b;", 2)]:
            self.assert_bad(statements, text, "empty", statement)

    def test_space(self):
        for bad in (" ", "  ", " a", "a ", "a  b", " a b", "a b ", "a b  c", "   "):
            for before in range(3):
                for after in range(2):
                    text = ";".join(["x"] * before + [bad] + ["y"] * after)
                    self.assert_bad(statements, text, "space", before)

    def test_order(self):
        many = "a" * 241
        cases = [
            (many + PERCENT, "long", 0), (many + ";;", "long", 0), (" " * 241, "long", 0), ("\n" * 241, "long", 0),
            (";" + PERCENT, "character", 0), (" a;b" + PERCENT, "character", 0), ("a;;  " + PERCENT, "character", 0),
            ("; a", "empty", 0), (" a;", "space", 0), ("a;b ;", "space", 1), ("a;;b ", "empty", 1), ("a b;c;  ;", "space", 2),
        ]
        for text, reason, statement in cases:
            self.assert_bad(statements, text, reason, statement)


class WordTest(unittest.TestCase):
    def assert_words(self, check, good, bad):
        for word in good:
            self.assertIs(check(word), True, word)
        for word in bad + [""] + NOT_PRINTABLE + [char + "a" for char in NOT_PRINTABLE] + ["1" + char for char in NOT_PRINTABLE]:
            self.assertIs(check(word), False, word)

    def characters(self, check):
        return "".join(char for char in PRINTABLE if check(char))

    def test_name(self):
        self.assert_words(is_name, ["a", "z", "ann", "abcdefghijkl", "z" * 12],
                          ["a" * 13, "a" * 100, "A", "aB", "a1", "1", "a.", "a b", "a;", " a", "a ", "a_b", "ann-"])
        self.assertEqual(self.characters(is_name), "abcdefghijklmnopqrstuvwxyz")

    def test_key(self):
        self.assert_words(is_key, ["a", "0", ".", "a.1", "..", "z9." * 6 + "ab", "0" * 20, "007"],
                          ["a" * 21, "." * 100, "A", "aB", "a b", "a-b", "a;", "a_", "a,", "a:b"])
        self.assertEqual(self.characters(is_key), ".0123456789abcdefghijklmnopqrstuvwxyz")

    def test_value(self):
        self.assert_words(is_value, ["a", "0", "A-b_c,d:e/f", "'\"\\", "v" * 40, "~" * 40],
                          ["v" * 41, "v" * 400, " ", "a b", " a", "a ", ";", "a;b", "a;"])
        self.assertEqual(self.characters(is_value), PRINTABLE.replace(" ", "").replace(";", ""))

    def test_amount(self):
        self.assert_words(is_amount, ["0", "1", "9", "10", "30", "100000000000", "999999999999"],
                          ["00", "01", "007", "1000000000000", "0" * 12, "9" * 13, "-1", "+1", "1.0", "1e3", "1_000", " 1", "1 ", "a", "1a"])
        self.assertEqual(self.characters(is_amount), "0123456789")


if __name__ == "__main__":
    unittest.main()
