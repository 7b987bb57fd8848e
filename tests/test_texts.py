"""Points 101 and 107 to 112: integers, printable strings and canonical texts."""

import itertools
import unittest

from oathledger.errors import BadText
from oathledger.texts import decode, encode, integer_of, is_integer, is_printable, read_value, text_length
from tests.values import PERCENT, STRANGE, Odd, nest

NOT_PLAIN = [[], [1], 0.0, 1.5, b"", b"a", bytearray(b"a"), {}, {1}, frozenset(), object(), Odd(), Odd, len, 1j]
CHARACTERS_BEYOND = ["\x7f", "\x80", "\xa0", "\xe9", "\u0660", "\xb2", "\u2028", "\ud800", "\U0001f600"]
ROWS = [
    (None, "n"), (True, "y"), (False, "z"),
    (0, "i0;"), (1, "i1;"), (-1, "i-1;"), (10, "i10;"), (-120, "i-120;"), (1234567890, "i1234567890;"),
    ("", "s0:"), ("a", "s1:a"), (" ", "s1: "), ("~", "s1:~"), ("n;:-", "s4:n;:-"), ("0123456789", "s10:0123456789"),
    ((), "t0:"), ((None,), "t1:n"), ((1, "ab", ()), "t3:i1;s2:abt0:"), ((True, False), "t2:yz"),
    (((),), "t1:t0:"), ((1,) * 12, "t12:" + "i1;" * 12), (("t0:",), "t1:s3:t0:"),
]


def simple_text(value):
    """The text of a plain value, as the table of point 108 tells it."""
    if value is None:
        return "n"
    if isinstance(value, bool):
        return "y" if value else "z"
    if isinstance(value, int):
        return "i" + str(value) + ";"
    if isinstance(value, str):
        return "s" + str(len(value)) + ":" + value
    return "t" + str(len(value)) + ":" + "".join([simple_text(item) for item in value])


def texts_by_length(most, digits, letters):
    """All canonical texts of up to that many characters with these digits and letters, by their length."""
    found = {0: [], 1: ["n", "y", "z"]}
    for length in range(2, most + 1):
        texts = []
        for middle in itertools.product(digits, repeat=length - 2):
            number = "".join(middle)
            if number and (number == "0" or number[0] != "0"):
                texts.append("i" + number + ";")
        for middle in itertools.product(digits, repeat=max(0, length - 3)):
            number = "".join(middle)
            if number and number[0] != "0":
                texts.append("i-" + number + ";")
        for count in range(10):
            if length == 3 + count:
                texts.extend([f"s{count}:" + "".join(part) for part in itertools.product(letters, repeat=count)])
            texts.extend(["t" + str(count) + ":" + part for part in rows_of(found, count, length - 3)])
        found[length] = texts
    return found


def rows_of(found, count, length):
    """All texts of that length that are that many canonical texts side by side."""
    if count == 0:
        return [""] if length == 0 else []
    rows = []
    for first in range(1, length + 1):
        for tail in rows_of(found, count - 1, length - first):
            rows.extend([text + tail for text in found[first]])
    return rows


class IntegerTest(unittest.TestCase):
    def test_range(self):
        for value in range(-5, 6):
            for least in range(-3, 4):
                for greatest in range(-3, 4):
                    self.assertIs(is_integer(value, least, greatest), least <= value <= greatest)

    def test_true_and_false_are_no_integers(self):
        self.assertIs(is_integer(1, 0, 1), True)
        self.assertIs(is_integer(0, 0, 1), True)
        self.assertIs(is_integer(True, 0, 1), False)
        self.assertIs(is_integer(False, 0, 1), False)

    def test_other_values(self):
        for value in ["0", "", (0,), ()] + STRANGE:
            self.assertIs(is_integer(value, -10, 10), False)

    def test_great_numbers(self):
        self.assertIs(is_integer(10 ** 5000, 0, 10 ** 5000), True)
        self.assertIs(is_integer(10 ** 5000, 0, 10 ** 5000 - 1), False)


class PrintableTest(unittest.TestCase):
    def test_each_character(self):
        others = CHARACTERS_BEYOND + [chr(code) for code in range(128)]
        for character in others:
            printable = " " <= character <= "~" and character != PERCENT
            for text in (character, character + "ab", "a" + character + "b", "ab" + character, character * 3):
                with self.subTest(repr(text)):
                    self.assertIs(is_printable(text), printable)

    def test_named_characters(self):
        self.assertIs(is_printable(PERCENT), False)
        self.assertIs(is_printable("a\nb"), False)
        self.assertIs(is_printable("a\tb"), False)
        self.assertIs(is_printable("a b~!"), True)

    def test_empty(self):
        self.assertIs(is_printable(""), True)

    def test_other_values(self):
        for value in [0, 1, ("a",), ()] + STRANGE:
            self.assertIs(is_printable(value), False)

    def test_long(self):
        self.assertIs(is_printable("a" * 200000), True)
        self.assertIs(is_printable("a" * 200000 + PERCENT), False)


class EncodeTest(unittest.TestCase):
    def assert_bad(self, value):
        for ask in (encode, text_length):
            with self.assertRaises(BadText):
                ask(value)

    def assert_text(self, value, text):
        self.assertEqual(encode(value), text)
        self.assertEqual(text_length(value), len(text))
        again = decode(text)
        self.assertEqual(again, value)
        self.assertEqual(simple_text(again), text)

    def test_rows_of_the_table(self):
        for value, text in ROWS:
            with self.subTest(text):
                self.assert_text(value, text)

    def test_true_is_not_1(self):
        self.assertEqual([encode(value) for value in (1, True, 0, False)], ["i1;", "y", "i0;", "z"])
        self.assertEqual(encode((1, True, 0, False, 1)), "t5:i1;yi0;zi1;")

    def test_digits(self):
        for number in (10 ** 60 - 1, 10 ** 59, 9, 10):
            self.assert_text(number, "i" + str(number) + ";")
            self.assert_text(-number, "i-" + str(number) + ";")
        for number in (10 ** 60, 10 ** 61, 2 ** 200, 2 ** 240, 10 ** 10000):
            self.assert_bad(number)
            self.assert_bad(-number)
            self.assert_bad((1, number))

    def test_depth(self):
        for inner in ((), (1,), ("a", None)):
            self.assert_text(nest(12, inner), "t1:" * 11 + simple_text(inner))
            self.assert_bad(nest(13, inner))
        self.assert_bad((1, nest(12), 2))
        self.assert_text((1, nest(11), nest(11)), "t3:i1;" + 2 * ("t1:" * 10 + "t0:"))
        self.assert_bad(nest(100000))

    def test_not_plain_at_any_place(self):
        for value in NOT_PLAIN:
            places = [value, (value,), (1, value), (value, 1), (1, value, 1), ((), (1, (value, 2))), nest(12, (value,))]
            for place in places:
                self.assert_bad(place)

    def test_not_printable(self):
        for character in CHARACTERS_BEYOND + [PERCENT, "\n", "\t", "\x00"]:
            for text in (character, "a" + character, character + "a", "a" + character + "a"):
                self.assert_bad(text)
                self.assert_bad((1, text))

    def test_length(self):
        for value in ("a" * 99993, (None,) * 99993, ("a" * 49990, "b" * 49992 + "1"), ((True, "c" * 99986),)):
            self.assertEqual(len(simple_text(value)), 100000)
            self.assert_text(value, simple_text(value))
        for value in ("a" * 99994, (None,) * 99994, ("a" * 49990, "b" * 49993 + "1"), ((True, "c" * 99987),)):
            self.assertEqual(len(simple_text(value)), 100001)
            self.assert_bad(value)
        self.assert_bad("a" * 1000000)
        self.assert_bad((1,) * 1000000)

    def test_many_copies_of_one_tuple(self):
        value = ()
        for _ in range(11):
            value = (value,) * 1000
        self.assert_bad(value)


class DecodeTest(unittest.TestCase):
    def assert_bad(self, text):
        with self.assertRaises(BadText):
            decode(text)

    def test_listed_cases(self):
        cases = {
            "empty": [""],
            "after the end": ["nn", "i1;i", "i1; ", "s1:ab", "t0:n", "t1:nn", "n\n", "y "],
            "too early": ["i", "i1", "i-", "i-1", "s", "s1", "s1:", "s2:a", "t", "t1", "t1:", "t2:n", "t1:t", "t1:i1"],
            "leading zero": ["i01;", "i00;", "i-01;", "i-0;", "s00:", "s01:a", "t00:", "t01:n"],
            "does not fit": ["s3:ab", "s1:ab", "t3:nn", "t1:nn", "t99999:n", "s99999:a", "t10000000000:n"],
            "not printable": ["s1:" + PERCENT, "s1:\n", "s2:a\t", "s1:\xe9", "t1:s1:\x7f", "s1:\x00"],
            "digits": ["i" + "1" * 61 + ";", "i-" + "1" * 61 + ";", "i" + "9" * 5000 + ";", "i1" + "0" * 60 + ";"],
            "other marks": ["a", "N", "0", "-1", "1", ";", ":", "x0:", "I1;", "S0:", "T0:", " n", "\n"],
            "no digits": ["i;", "i-;", "i--1;", "i+1;", "i 1;", "i1 ;", "i1_0;", "ia;", "s:", "t:", "s-1:", "t-1:n"],
            "wrong ends": ["i1:", "s1;a", "t1;n", "i1,", "s0", "t0"],
            "other digits": ["i\u0661;", "i\xb2;", "s\u0661:a", "t\uff11:n", "i1\u0660;"],
        }
        for name, texts in cases.items():
            for text in texts:
                with self.subTest(case=name, text=text[:40]):
                    self.assert_bad(text)

    def test_digits(self):
        self.assertEqual(decode("i" + "9" * 60 + ";"), 10 ** 60 - 1)
        self.assertEqual(decode("i-" + "9" * 60 + ";"), 1 - 10 ** 60)

    def test_great_counts(self):
        for mark in "st":
            for digits in ("9" * 60, "9" * 61, "9" * 5000, "9" * 99000, "1" + "0" * 59):
                self.assert_bad(mark + digits + ":a")
                self.assert_bad(mark + digits + ":")
                self.assert_bad(mark + digits)

    def test_depth(self):
        self.assertEqual(decode("t1:" * 11 + "t0:"), nest(12))
        self.assertEqual(decode("t1:" * 12 + "n"), nest(12, (None,)))
        self.assert_bad("t1:" * 12 + "t0:")
        self.assert_bad("t1:" * 13 + "n")
        self.assert_bad("t2:n" + "t1:" * 12 + "n")
        self.assert_bad("t1:" * 30000 + "t0:")

    def test_length(self):
        self.assertEqual(decode("s99993:" + "a" * 99993), "a" * 99993)
        self.assertEqual(decode("t99993:" + "n" * 99993), (None,) * 99993)
        self.assert_bad("s99994:" + "a" * 99994)
        self.assert_bad("t99994:" + "n" * 99994)
        self.assert_bad("n" * 100001)

    def test_not_a_string(self):
        for value in [0, 1, ("n",), (), b"n"] + STRANGE:
            self.assert_bad(value)

    def test_each_short_text(self):
        most = 5
        alphabet = "nyzist-012;:"
        good = {text for texts in texts_by_length(most, "012", alphabet).values() for text in texts}
        accepted = set()
        for length in range(most + 1):
            for characters in itertools.product(alphabet, repeat=length):
                text = "".join(characters)
                try:
                    value = decode(text)
                except BadText:
                    continue
                accepted.add(text)
                self.assertEqual(simple_text(value), text)
        self.assertEqual(accepted, good)

    def test_decode_of_encode(self):
        values = [value for value, _ in ROWS]
        values = values + [(first, second) for first in values for second in values]
        for value in values:
            again = decode(encode(value))
            self.assertEqual(again, value)
            self.assertEqual(simple_text(again), simple_text(value))

    def test_no_list_in_the_result(self):
        value = decode("t2:t1:t0:s1:a")
        self.assertIs(type(value), tuple)
        self.assertIs(type(value[0]), tuple)
        self.assertIs(type(value[0][0]), tuple)

    def test_examples(self):
        self.assertEqual(encode((1, "ab", ())), "t3:i1;s2:abt0:")
        self.assertEqual(encode((-12, "a;", None, (True,))), "t4:i-12;s2:a;nt1:y")
        self.assertEqual(decode("t1:s0:"), ("",))
        self.assert_bad("i01;")
        self.assert_bad("s2:a")


class ReadValueTest(unittest.TestCase):
    def assert_bad(self, text, start):
        with self.assertRaises(BadText):
            read_value(text, start)

    def test_no_text_is_a_prefix_of_another_one(self):
        texts = [text for _, text in ROWS]
        for first in texts:
            for second in texts:
                self.assertFalse(first != second and second.startswith(first))

    def test_each_start(self):
        text = "xt2:i12;s3:t0:n"
        begins = {1: ((12, "t0:"), 14), 4: (12, 8), 8: ("t0:", 14), 11: ((), 14), 14: (None, 15)}
        for start in range(-3, len(text) + 4):
            if start in begins:
                self.assertEqual(read_value(text, start), begins[start])
            else:
                self.assert_bad(text, start)

    def test_bad_starts(self):
        for start in [-1, 4, 100, 10 ** 30, "0", (0,)] + STRANGE:
            self.assert_bad("nnn", start)

    def test_start_at_the_end(self):
        self.assert_bad("", 0)
        self.assert_bad("n", 1)
        self.assertEqual(read_value("nn", 1), (None, 2))

    def test_not_a_string(self):
        for value in [0, 5, ("n",), (), b"n"] + STRANGE:
            self.assert_bad(value, 0)

    def test_several_side_by_side(self):
        texts = [text for _, text in ROWS] * 3
        joined = "".join(texts)
        found = []
        at = 0
        while at < len(joined):
            value, after = read_value(joined, at)
            found.append(simple_text(value))
            at = after
        self.assertEqual(found, texts)
        self.assertEqual(at, len(joined))

    def test_what_follows_does_not_matter(self):
        for value, text in ROWS:
            for behind in ("", "x", "0", ";", ":", "\n", PERCENT, "s5:a"):
                again, after = read_value(text + behind, 0)
                self.assertEqual((simple_text(again), after), (simple_text(value), len(text)))

    def test_length(self):
        long = "s99993:" + "a" * 99993
        self.assertEqual(read_value("xx" + long + "aa", 2), ("a" * 99993, 100002))
        self.assertEqual(read_value(long + long, 100000), ("a" * 99993, 200000))
        too_long = "s99994:" + "a" * 99994
        self.assert_bad(too_long, 0)
        self.assert_bad("xx" + too_long + "aa", 2)
        self.assertEqual(read_value("t2:" + "s49990:" + "a" * 49990 + "s49993:" + "b" * 49993, 0)[1], 100000)
        self.assert_bad("t2:" + "s49990:" + "a" * 49990 + "s49994:" + "b" * 49994, 0)
        self.assert_bad("t3:" + "s49990:" + "a" * 49990 + "s49990:" + "b" * 49990 + "i10;", 0)

    def test_many_in_a_long_text(self):
        text = "i7;" * 100000
        at = 0
        while at < len(text):
            value, at = read_value(text, at)
            self.assertEqual(value, 7)

    def test_depth(self):
        self.assertEqual(read_value("n" + "t1:" * 11 + "t0:n", 1), (nest(12), 37))
        self.assert_bad("n" + "t1:" * 12 + "t0:n", 1)


class IntegerOfTest(unittest.TestCase):
    def test_words_of_integers(self):
        for value in (0, 1, 9, 10, 123, 999):
            self.assertEqual(integer_of(str(value), 3), value)
            self.assertEqual(integer_of(str(-value), 3), -value)
        self.assertEqual(integer_of("1" * 60, 60), int("1" * 60))

    def test_words_that_are_none(self):
        words = ["", "-", "-0", "00", "01", "-01", "--1", "1-", "+1", "1 ", " 1", "1.0", "1_0", "a", "1000", "-1000", "0001", "\u0661", "\xb2",
                 "9" * 5000, "-" + "9" * 5000]
        for word in words:
            self.assertIsNone(integer_of(word, 3), word)


if __name__ == "__main__":
    unittest.main()
