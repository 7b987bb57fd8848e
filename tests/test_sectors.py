"""Points 206 and 207: the texts of sectors, and how a text is cut."""

import unittest

from oathledger.sectors import PIECE_SIZE, cut, format_head, format_piece, parse_sector

PAYLOADS = ["a", " ", "  ", " a", "a ", " a b  c ", "H 1 0", "x" * 39, "x" * 40, " " * 40, "P 1 0 0 x", "\xe9", "0"]
BAD_NUMBERS = ["", "01", "00", "+1", "-1", "1.0", "1_0", "a", "1a", "0x1", "\u0661", "\xb2", "1\n", "1\t"]


class FormatTest(unittest.TestCase):
    def test_piece_size(self):
        self.assertEqual(PIECE_SIZE, 40)

    def test_head(self):
        self.assertEqual(format_head(1, 0), "H 1 0")
        self.assertEqual(format_head(120, 1), "H 120 1")

    def test_piece(self):
        self.assertEqual(format_piece(1, 0, 0, "a"), "P 1 0 0 a")
        self.assertEqual(format_piece(12, 34, 56, " b c "), "P 12 34 56  b c ")


class ParseTest(unittest.TestCase):
    def test_heads(self):
        for generation in (1, 9, 10, 10 ** 20):
            for area in (0, 1):
                self.assertEqual(parse_sector(format_head(generation, area)), ("head", generation, area))

    def test_pieces(self):
        for generation in (1, 10, 10 ** 9):
            for place in (0, 1, 10, 4999):
                for left in (0, 1, 10, 2500):
                    for payload in PAYLOADS:
                        text = format_piece(generation, place, left, payload)
                        self.assertEqual(parse_sector(text), ("piece", generation, place, left, payload))

    def test_bad_heads(self):
        texts = ["H", "H ", "H 1", "H 1 ", "H 1  0", "H  1 0", " H 1 0", "H 1 0 ", "H 1 0 0", "H 0 0", "H 0 1", "H 1 2", "H 1 00",
                 "H 1 01", "H 1 -0", "H 1 10", "h 1 0", "HH 1 0", "H1 0", "H 1,0", "H 1\t0", "H 1 0\n", "Head 1 0"]
        texts = texts + [f"H {word} 0" for word in BAD_NUMBERS] + [f"H 1 {word}" for word in BAD_NUMBERS]
        for text in texts:
            with self.subTest(text):
                self.assertIsNone(parse_sector(text))

    def test_bad_pieces(self):
        texts = ["P", "P ", "P 1", "P 1 0", "P 1 0 0", "P 1 0 0 ", "P 0 0 0 a", "P 1  0 0 a", "P  1 0 0 a", " P 1 0 0 a",
                 "p 1 0 0 a", "PP 1 0 0 a", "P 1 0  0 a", "P 1 0 0" + "x", "Q 1 0 0 a", "H 1 0 0 a", "P1 0 0 0 a", "P\t1 0 0 a"]
        for word in BAD_NUMBERS:
            texts.extend([f"P {word} 0 0 a", f"P 1 {word} 0 a", f"P 1 0 {word} a"])
        for text in texts:
            with self.subTest(text):
                self.assertIsNone(parse_sector(text))

    def test_two_spaces_before_the_payload(self):
        self.assertEqual(parse_sector("P 1 0 0  a"), ("piece", 1, 0, 0, " a"))
        self.assertEqual(parse_sector("P 1 0 0  "), ("piece", 1, 0, 0, " "))

    def test_length_of_the_payload(self):
        self.assertEqual(parse_sector("P 1 0 0 " + "y" * 40), ("piece", 1, 0, 0, "y" * 40))
        for size in (0, 41, 42, 80):
            self.assertIsNone(parse_sector("P 1 0 0 " + "y" * size))
        self.assertIsNone(parse_sector("P 1 0 0 " + " " * 41))

    def test_length_of_the_text(self):
        for digits, good in ((92, True), (93, False)):
            text = "H " + "7" * digits + " 1"
            self.assertEqual(len(text), 4 + digits)
            self.assertEqual(parse_sector(text), ("head", int("7" * digits), 1) if good else None)
        for digits, good in ((49, True), (50, False)):
            text = "P " + "7" * digits + " 0 0 " + "y" * 40
            self.assertEqual(len(text), 47 + digits)
            self.assertEqual(parse_sector(text), ("piece", int("7" * digits), 0, 0, "y" * 40) if good else None)
        self.assertIsNone(parse_sector("H " + "7" * 5000 + " 1"))

    def test_other_texts(self):
        for text in ["", " ", "x", "0", "n", "head", "x" * 96, " " * 96, "H" * 96, "P 1 0 0 a".lower(), "\n"]:
            self.assertIsNone(parse_sector(text))


class CutTest(unittest.TestCase):
    def test_sizes(self):
        for size, sizes in [(1, [1]), (39, [39]), (40, [40]), (41, [40, 1]), (79, [40, 39]), (80, [40, 40]), (81, [40, 40, 1]),
                            (100000, [40] * 2500)]:
            text = ("0123456789abcdefghijklm" * 5000)[:size]
            payloads = cut(text)
            self.assertEqual([len(payload) for payload in payloads], sizes)
            self.assertEqual("".join(payloads), text)

    def test_spaces(self):
        text = " " * 40 + "a" + " " * 41
        self.assertEqual(cut(text), [" " * 40, "a" + " " * 39, "  "])


if __name__ == "__main__":
    unittest.main()
