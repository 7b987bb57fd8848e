"""Points 123 to 127: packets, frames and streams."""

import itertools
import unittest

from oathledger.errors import BadLetter, BadText
from oathledger.groups import Group
from oathledger.texts import encode
from oathledger.wire import Cutter, frame, pack, unpack
from tests.test_letters import ALL, ANSWER, BETWEEN, REQUEST
from tests.values import PERCENT, STRANGE, nest

GROUP = Group(1)


class PacketTest(unittest.TestCase):
    def test_pack_and_unpack(self):
        packets = [(3, 0, letter) for letter in BETWEEN] + [(-100, 3, REQUEST), (0, -1, ANSWER)]
        self.assertEqual(len(packets), len(ALL))
        for sender, receiver, letter in packets:
            text = pack(sender, receiver, letter)
            self.assertEqual(text, encode((sender, receiver, letter)))
            self.assertEqual(unpack(GROUP, text), (sender, receiver, letter))

    def test_one_text(self):
        self.assertEqual(pack(0, 1, ("claim", 12)), "t3:i0;i1;t2:s5:claimi12;")
        self.assertEqual(unpack(GROUP, "t3:i0;i1;t2:s5:claimi12;"), (0, 1, ("claim", 12)))

    def test_pack_checks_nothing_else(self):
        for packet in [(0, 0, 5), ("a", None, ()), (99, -99, ("vote",)), (True, (), "x")]:
            self.assertEqual(pack(*packet), encode(packet))

    def test_pack_of_what_is_not_plain(self):
        for bad in [[], 1.0, b"a", PERCENT, "\n", 10 ** 60, nest(12), "a" * 100000, object()]:
            for packet in [(bad, 0, ("claim", 0)), (0, bad, ("claim", 0)), (0, 0, bad)]:
                with self.assertRaises(BadText):
                    pack(*packet)

    def test_length_of_a_packet(self):
        self.assertEqual(len(pack(0, 0, "a" * 99984)), 100000)
        with self.assertRaises(BadText):
            pack(0, 0, "a" * 99985)

    def test_unpack_of_bad_texts(self):
        good = pack(0, 1, ("claim", 0))
        for text in ["", "x", good + "n", good[:-1], "t3:i00;i1;t2:s5:claimi0;", "t3:i0;i1;t2:s5:clbmi01;", "t3:i0;i1;",
                     good.replace("claim", "cla\xe9m"), "s99994:" + "a" * 99994, 5, None, b"n", ("n",)]:
            with self.assertRaises(BadText):
                unpack(GROUP, text)

    def test_unpack_of_other_values(self):
        letter = ("claim", 0)
        for value in [5, None, "abc", (), (0,), (0, 1), (0, letter), (0, 1, letter, 0), (letter,), ((0, 1, letter),)]:
            with self.assertRaises(BadLetter):
                unpack(GROUP, encode(value))

    def test_unpack_of_bad_letters(self):
        packets = [(0, 1, ("claim", -1)), (0, 1, ("vote",)), (0, 1, "claim"), (0, 1, ()), (0, 4, ("claim", 0)),
                   (4, 0, ("claim", 0)), (-1, 0, ("claim", 0)), (0, -1, ("claim", 0)), (0, 1, REQUEST), (-1, -2, REQUEST),
                   (0, 1, ANSWER), (-1, 1, ANSWER), (True, 1, ("claim", 0)), (0, None, ("claim", 0)), ("0", 1, ("claim", 0))]
        for packet in packets:
            with self.assertRaises(BadLetter):
                unpack(GROUP, pack(*packet))

    def test_unpack_asks_the_group(self):
        text = pack(6, 5, ("claim", 0))
        self.assertEqual(unpack(Group(2), text), (6, 5, ("claim", 0)))
        with self.assertRaises(BadLetter):
            unpack(GROUP, text)


class FrameTest(unittest.TestCase):
    def test_frames(self):
        self.assertEqual(frame("abc"), "3:abc,")
        self.assertEqual(frame("a"), "1:a,")
        self.assertEqual(frame(","), "1:,,")
        self.assertEqual(frame("0123456789"), "10:0123456789,")
        self.assertEqual(frame("a" * 99999), "99999:" + "a" * 99999 + ",")
        self.assertEqual(frame("a" * 100000), "100000:" + "a" * 100000 + ",")

    def test_bad_texts(self):
        for text in ["", "a" * 100001, "a" * 1000000, "\n", "a\nb", "a\t", PERCENT, "a" + PERCENT, "\x7f", "\xe9", 1, ("a",),
                     ()] + STRANGE:
            with self.assertRaises(BadText):
                frame(text)


def fed(chunks):
    """The texts that a new cutter returns for the chunks, and then the cutter."""
    cutter = Cutter()
    texts = []
    for chunk in chunks:
        texts.extend(cutter.feed(chunk))
    return texts, cutter


class GoodStreamTest(unittest.TestCase):
    TEXTS = ["a", "t0:", "5:x,y", ",", ":", "0123456789ab", " "]

    def test_at_once(self):
        texts, cutter = fed(["".join([frame(text) for text in self.TEXTS])])
        self.assertEqual(texts, self.TEXTS)
        self.assertIs(cutter.broken(), False)
        self.assertEqual(cutter.waiting(), 0)

    def test_new_cutter(self):
        cutter = Cutter()
        self.assertIs(cutter.broken(), False)
        self.assertEqual(cutter.waiting(), 0)
        self.assertEqual(cutter.feed(""), [])
        self.assertEqual(cutter.waiting(), 0)

    def test_cut_at_every_place(self):
        stream = "".join([frame(text) for text in self.TEXTS])
        for first in range(len(stream) + 1):
            for second in range(first, len(stream) + 1):
                texts, cutter = fed([stream[:first], stream[first:second], stream[second:]])
                self.assertEqual(texts, self.TEXTS)
                self.assertEqual((cutter.broken(), cutter.waiting()), (False, 0))

    def test_character_by_character_with_empty_chunks(self):
        cutter = Cutter()
        texts = []
        held = 0
        for text in self.TEXTS:
            whole = frame(text)
            for count, character in enumerate(whole):
                new = cutter.feed(character)
                held = (count + 1) % len(whole)
                self.assertEqual(new, [] if held else [text])
                self.assertEqual(cutter.feed(""), [])
                self.assertEqual((cutter.broken(), cutter.waiting()), (False, held))
                texts.extend(new)
        self.assertEqual(texts, self.TEXTS)

    def test_waiting_for_each_beginning(self):
        whole = frame("0123456789ab")
        for count in range(len(whole)):
            texts, cutter = fed(["1:x,2:yz," + whole[:count]])
            self.assertEqual(texts, ["x", "yz"])
            self.assertEqual(cutter.waiting(), count)

    def test_longest_text(self):
        stream = frame("a" * 100000) + frame("b")
        for size in (1, 7, 100000, 100008, 200000):
            chunks = [stream[at:at + size] for at in range(0, len(stream), size)]
            texts, cutter = fed(chunks)
            self.assertEqual(texts, ["a" * 100000, "b"])
            self.assertEqual((cutter.broken(), cutter.waiting()), (False, 0))

    def test_two_cutters_side_by_side(self):
        first, second = Cutter(), Cutter()
        self.assertEqual(first.feed("3:ab"), [])
        self.assertEqual(second.feed("2:x"), [])
        self.assertEqual((first.waiting(), second.waiting()), (4, 3))
        self.assertEqual(second.feed("y,"), ["xy"])
        self.assertEqual(first.feed("c,"), ["abc"])
        second.feed("x")
        self.assertEqual((first.broken(), second.broken()), (False, True))
        self.assertEqual(first.feed("1:z,"), ["z"])

    def test_the_returned_list_is_the_callers(self):
        cutter = Cutter()
        texts = cutter.feed("1:a,1:b")
        texts.append("x")
        self.assertEqual(cutter.feed(","), ["b"])


class MalformedStreamTest(unittest.TestCase):
    # The part that is still allowed, and the character that no sequence of frames allows behind it.
    WAYS = [
        ("", "x"), ("", ":"), ("", ","), ("", "-"), ("", " "), ("", "\n"), ("", "\u0661"), ("", "\xb2"), ("", PERCENT),
        ("", "0"),
        ("10000", "1"), ("10000", "9"), ("20000", "0"), ("99999", "0"), ("100000", "0"), ("1000000"[:6], "5"),
        ("1", "x"), ("1", ","), ("12", " "), ("1", "-"), ("100000", "x"), ("1", "\u0661"), ("12", "\xb2"), ("1", "\n"),
        ("1:", "\n"), ("3:", "\t"), ("3:a", PERCENT), ("3:ab", "\xe9"), ("3:ab", "\x7f"), ("12:0123", "\x00"),
        ("1:a", "b"), ("1:a", ";"), ("1:,", ":"), ("3:abc", "1"), ("1:a", "\n"), ("1:a", " "),
    ]

    def assert_broken(self, cutter):
        self.assertIs(cutter.broken(), True)
        self.assertEqual(cutter.waiting(), 0)
        for chunk in ("", "1:a,", "x", ",", "c,1:x,"):
            self.assertEqual(cutter.feed(chunk), [])
            self.assertIs(cutter.broken(), True)
            self.assertEqual(cutter.waiting(), 0)

    def test_in_one_chunk(self):
        for good, bad in self.WAYS:
            for behind in ("", "1:z,", "c,1:z,", "\n"):
                with self.subTest(good=good, bad=bad, behind=behind):
                    texts, cutter = fed(["2:ab,1:c," + good + bad + behind])
                    self.assertEqual(texts, ["ab", "c"])
                    self.assert_broken(cutter)

    def test_frames_in_an_earlier_chunk(self):
        for good, bad in self.WAYS:
            with self.subTest(good=good, bad=bad):
                cutter = Cutter()
                self.assertEqual(cutter.feed("2:ab,1:c,"), ["ab", "c"])
                self.assertEqual(cutter.feed("3:xyz," + good + bad + "1:z,"), ["xyz"])
                self.assert_broken(cutter)

    def test_at_this_character_and_not_before(self):
        for good, bad in self.WAYS:
            with self.subTest(good=good, bad=bad):
                cutter = Cutter()
                self.assertEqual(cutter.feed("2:ab," + good), ["ab"])
                self.assertEqual((cutter.broken(), cutter.waiting()), (False, len(good)))
                self.assertEqual(cutter.feed(bad), [])
                self.assert_broken(cutter)

    def test_cut_at_every_place(self):
        for good, bad in self.WAYS:
            stream = "1:c," + good + bad + "2:zz,"
            for first, second in itertools.combinations(range(len(stream) + 1), 2):
                texts, cutter = fed([stream[:first], stream[first:second], stream[second:]])
                self.assertEqual(texts, ["c"])
                self.assertEqual((cutter.broken(), cutter.waiting()), (True, 0))

    def test_greatest_lengths(self):
        for length in ("100000", "99999", "10000"):
            cutter = fed([length + ":"])[1]
            self.assertEqual((cutter.broken(), cutter.waiting()), (False, len(length) + 1))
        self.assertIs(fed(["100001"])[1].broken(), True)

    def test_example(self):
        self.assertEqual(frame("abc"), "3:abc,")
        cutter = Cutter()
        self.assertEqual(cutter.feed("3:ab"), [])
        self.assertEqual(cutter.waiting(), 4)
        self.assertEqual(cutter.feed("c,1:x,2"), ["abc", "x"])
        self.assertEqual(cutter.feed("x"), [])
        self.assertEqual((cutter.broken(), cutter.waiting()), (True, 0))


if __name__ == "__main__":
    unittest.main()
