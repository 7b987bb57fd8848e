"""Points 213 to 215: the meaning of records."""

import copy
import random
import unittest

from oathledger.blocks import GENESIS
from oathledger.errors import BadRecord
from oathledger.memory import Memory, reduce
from tests.records import last_final_epoch, meaning, random_record, reduction, told, valid_next
from tests.values import PERCENT, STRANGE, Odd, block, with_part

MOST = 10 ** 12
B3 = (3, 0, 1, ((-7, 1, "a"), (-2, 4, "b")))
B5 = (5, 3, 2, ((-7, 2, "c"),))
B9 = (9, 5, 3, ())
BAD_BLOCKS = [GENESIS, (9, 4, 1, ()), (9, 9, 3, ()), (9, 4, 3, []), (9, 4, 3), list(B3), B3 + (1,), (), 3, "b"] + STRANGE


def random_lists():
    """Valid lists of records, and candidates for the next record of each of them."""
    rng = random.Random(11)
    found = []
    for _ in range(300):
        records = []
        for _ in range(rng.randrange(40)):
            record = random_record(rng, records)
            if valid_next(records, record):
                records.append(record)
        found.append((records, [random_record(rng, records) for _ in range(12)]))
    return found


LISTS = random_lists()


class FitsTest(unittest.TestCase):
    def assert_fits(self, records, record, good):
        memory = Memory(records)
        before = told(memory)
        self.assertIs(memory.fits(record), good)
        self.assertEqual(told(memory), before)
        if good:
            self.assertIsNone(memory.add(record))
            self.assertEqual(told(memory), told(Memory(records + [record])))
            return
        with self.assertRaises(BadRecord):
            memory.add(record)
        self.assertEqual(told(memory), before)
        with self.assertRaises(BadRecord):
            Memory(records + [record])
        with self.assertRaises(BadRecord):
            reduce(records + [record])

    def test_mark(self):
        for epoch, floor in [(0, 0), (1, 7), (7, 1), (MOST, MOST), (0, MOST), (MOST, 0)]:
            self.assert_fits([], ("mark", epoch, floor), True)
        for bad in [-1, MOST + 1, "0", (0,)] + STRANGE:
            self.assert_fits([], ("mark", bad, 0), False)
            self.assert_fits([], ("mark", 0, bad), False)
        others = [("mark", 0, 0), ("final", B3), ("state", 0, ""), ("vouch", (-1, 1, "")), ("vote", B3), ("ready", B3)]
        for record in others:
            self.assert_fits([record], ("mark", 0, 0), False)
            self.assert_fits([record], ("mark", 99, 99), False)

    def test_mark_does_not_follow_a_record_that_failed(self):
        memory = Memory([])
        with self.assertRaises(BadRecord):
            memory.add(("final", B5))
        self.assertIs(memory.fits(("mark", 1, 1)), True)

    def test_final(self):
        self.assert_fits([], ("final", B3), True)
        self.assert_fits([("final", B3)], ("final", B5), True)
        self.assert_fits([("final", B3), ("final", B5)], ("final", B9), True)
        self.assert_fits([], ("final", B5), False)
        self.assert_fits([("final", B3)], ("final", B3), False)
        self.assert_fits([("final", B3)], ("final", (5, 0, 1, ())), False)
        self.assert_fits([("final", B3)], ("final", (5, 3, 3, ())), False)
        self.assert_fits([("final", B3)], ("final", (5, 4, 2, ())), False)
        self.assert_fits([("final", B3)], ("final", (5, 2, 2, ())), False)
        self.assert_fits([("final", B3), ("final", B5)], ("final", (9, 5, 2, ())), False)
        self.assert_fits([("final", B3), ("final", B5)], ("final", (9, 5, 4, ())), False)
        self.assert_fits([("final", B3), ("final", B5)], ("final", (9, 3, 3, ())), False)
        for bad in BAD_BLOCKS:
            self.assert_fits([], ("final", bad), False)
        others = [("mark", 9, 9), ("state", 0, ""), ("vouch", (-7, 9, "a")), ("vote", (50, 0, 1, ())), ("ready", B3)]
        for count in range(6):
            self.assert_fits(others[:count], ("final", B3), True)
            self.assert_fits(others[:count], ("final", (4, 3, 2, ())), False)

    def test_state(self):
        finals = [("final", B3), ("final", B5), ("final", B9)]
        for count in range(4):
            for height in range(-1, 6):
                self.assert_fits(finals[:count], ("state", height, "x"), 0 <= height <= count)
                for earlier in range(count + 1):
                    records = finals[:count] + [("state", earlier, "y")]
                    self.assert_fits(records, ("state", height, "x"), earlier <= height <= count)
        records = finals + [("state", 1, "y"), ("state", 2, "y")]
        for height in range(5):
            self.assert_fits(records, ("state", height, "x"), 2 <= height <= 3)
        self.assert_fits(finals[:1] + [("state", 1, "y")] + finals[1:2], ("state", 0, "x"), False)
        for height in ["0", (0,)] + STRANGE:
            self.assert_fits(finals, ("state", height, "x"), False)
        for text in ("", " ", "x" * 60000, "x" * 100001, "t0:"):
            self.assert_fits(finals, ("state", 1, text), True)
        for text in [PERCENT, "a\n", "\xe9", 1, ("a",), ()] + STRANGE:
            self.assert_fits(finals, ("state", 1, text), False)

    def test_vouch(self):
        finals = [("final", B3), ("final", B5)]
        for number in range(8):
            self.assert_fits([], ("vouch", (-7, number, "x")), number >= 1)
            self.assert_fits(finals[:1], ("vouch", (-7, number, "x")), number > 1)
            self.assert_fits(finals, ("vouch", (-7, number, "x")), number > 2)
            self.assert_fits(finals, ("vouch", (-2, number, "x")), number > 4)
            self.assert_fits(finals, ("vouch", (-1, number, "x")), number >= 1)
            self.assert_fits([("vouch", (-7, 3, "x"))], ("vouch", (-7, number, "x")), number > 3)
            self.assert_fits([("vouch", (-7, 3, "x"))], ("vouch", (-6, number, "x")), number >= 1)
            self.assert_fits([("vouch", (-7, 3, "x"))] + finals, ("vouch", (-7, number, "x")), number > 3)
            self.assert_fits([("vouch", (-2, 3, "x"))] + finals, ("vouch", (-2, number, "x")), number > 4)
            vouches = [("vouch", (-7, 3, "x")), ("vouch", (-6, 1, "x")), ("vouch", (-7, 5, "x"))]
            self.assert_fits(vouches, ("vouch", (-7, number, "x")), number > 5)
        bad = [(0, 1, "a"), (-101, 1, "a"), (-1, 0, "a"), (-1, True, "a"), (-1, MOST + 1, "a"), (-1, 1, "a" * 241),
               (-1, 1, PERCENT), [-1, 1, "a"], (-1, 1), (), B3, 5, "a"]
        for command in bad + STRANGE:
            self.assert_fits([], ("vouch", command), False)

    def test_settled_number_is_the_greatest(self):
        descending = [("final", (1, 0, 1, ((-1, 9, ""),))), ("final", (2, 1, 2, ((-1, 3, ""),)))]
        for number in range(1, 12):
            self.assert_fits(descending, ("vouch", (-1, number, "")), number > 9)

    def test_vote(self):
        for epoch in range(1, 12):
            vote = ("vote", block(epoch))
            self.assert_fits([], vote, True)
            self.assert_fits([("final", B3)], vote, epoch > 3)
            self.assert_fits([("final", B3), ("final", B5)], vote, epoch > 5)
            self.assert_fits([("vote", block(6))], vote, epoch > 6)
            self.assert_fits([("vote", block(4)), ("vote", block(6)), ("final", B3)], vote, epoch > 6)
            self.assert_fits([("mark", 7, 0)], vote, epoch > 7)
            self.assert_fits([("mark", 7, 0), ("final", B3)], vote, epoch > 7)
            self.assert_fits([("mark", 4, 9), ("final", B3), ("final", B5)], vote, epoch > 5)
            self.assert_fits([("mark", 4, 0), ("vote", block(6))], vote, epoch > 6)
            self.assert_fits([("ready", block(6))], vote, True)
        for bad in BAD_BLOCKS:
            self.assert_fits([], ("vote", bad), False)

    def test_ready(self):
        for epoch in range(1, 12):
            ready = ("ready", block(epoch))
            self.assert_fits([], ready, True)
            self.assert_fits([("final", B3)], ready, epoch > 3)
            self.assert_fits([("final", B3), ("final", B5)], ready, epoch > 5)
            self.assert_fits([("ready", block(6))], ready, epoch != 6)
            self.assert_fits([("ready", block(6)), ("ready", block(4))], ready, epoch not in (4, 6))
            self.assert_fits([("ready", (6, 5, 2, ())), ("final", B3)], ready, epoch > 3 and epoch != 6)
            self.assert_fits([("mark", 7, 7), ("vote", block(9))], ready, True)
        for bad in BAD_BLOCKS:
            self.assert_fits([], ("ready", bad), False)

    def test_no_records(self):
        good = [("mark", 0, 0), ("final", B3), ("state", 0, "x"), ("vouch", (-1, 1, "a")), ("vote", B3), ("ready", B3)]
        for record in good:
            self.assert_fits([], record, True)
            for value in (record[:-1], record[:1], record[1:], record + (1,), record + (record[-1],), list(record), (record,)):
                self.assert_fits([], value, False)
            for kind in ["", "Mark", "votes", "claim", 1, 0, ("vote",), Odd()] + STRANGE:
                self.assert_fits([], with_part(record, 0, kind), False)
        self.assert_fits([], ("mark", B3), False)
        self.assert_fits([], ("vote", 3, B3), False)
        self.assert_fits([], ("state", 0), False)
        self.assert_fits([], ("vouch", (-1, 1, "a"), 0), False)
        for value in [(), "", "vote", "ab", "abc", 0, 5, B3] + STRANGE:
            self.assert_fits([], value, False)

    def test_random_lists(self):
        for records, candidates in LISTS:
            for record in candidates:
                self.assert_fits(records, record, valid_next(records, record))


class MemoryTest(unittest.TestCase):
    def test_empty(self):
        self.assertEqual(told(Memory([])), ([], None, [], [], [], 0, 0))

    def test_after_each_record(self):
        steps = [
            (("mark", 2, 4), ([], None, [], [], [], 2, 4)),
            (("vote", B3), ([], None, [], [B3], [], 3, 4)),
            (("ready", B3), ([], None, [], [B3], [B3], 3, 4)),
            (("vouch", (-2, 3, "x")), ([], None, [(-2, 3, "x")], [B3], [B3], 3, 4)),
            (("vouch", (-7, 5, "y")), ([], None, [(-7, 5, "y"), (-2, 3, "x")], [B3], [B3], 3, 4)),
            (("state", 0, "s"), ([], (0, "s"), [(-7, 5, "y"), (-2, 3, "x")], [B3], [B3], 3, 4)),
            (("final", B3), ([B3], (0, "s"), [(-7, 5, "y")], [B3], [B3], 3, 4)),
            (("vote", (9, 8, 9, ())), ([B3], (0, "s"), [(-7, 5, "y")], [B3, (9, 8, 9, ())], [B3], 9, 8)),
            (("state", 1, "t"), ([B3], (1, "t"), [(-7, 5, "y")], [B3, (9, 8, 9, ())], [B3], 9, 8)),
            (("vote", (10, 8, 3, ())),
             ([B3], (1, "t"), [(-7, 5, "y")], [B3, (9, 8, 9, ()), (10, 8, 3, ())], [B3], 10, 8)),
            (("vouch", (-7, 6, "z")),
             ([B3], (1, "t"), [(-7, 6, "z")], [B3, (9, 8, 9, ()), (10, 8, 3, ())], [B3], 10, 8)),
        ]
        memory = Memory([])
        records = []
        for record, expected in steps:
            memory.add(record)
            records.append(record)
            self.assertEqual(told(memory), expected)
            self.assertEqual(told(Memory(records)), expected)

    def test_order_of_readies(self):
        blocks = [block(9), block(4), block(6)]
        self.assertEqual(Memory([("ready", each) for each in blocks]).readies(), blocks)

    def test_floor_and_last_vote(self):
        cases = [
            ([("vote", block(4))], 4, 0),
            ([("vote", (4, 3, 4, ()))], 4, 3),
            ([("vote", (4, 3, 4, ())), ("vote", (5, 3, 2, ()))], 5, 3),
            ([("vote", (4, 3, 2, ())), ("vote", (5, 3, 4, ()))], 5, 3),
            ([("mark", 8, 2)], 8, 2),
            ([("mark", 3, 9), ("vote", (4, 3, 4, ()))], 4, 9),
            ([("mark", 3, 1), ("vote", (4, 3, 4, ()))], 4, 3),
            ([("ready", (9, 8, 9, ())), ("final", B3)], 0, 0),
        ]
        for records, last, floor in cases:
            memory = Memory(records)
            self.assertEqual((memory.last_vote(), memory.floor()), (last, floor))

    def test_vouches_and_settled_numbers(self):
        vouch = ("vouch", (-7, 2, "x"))
        self.assertEqual(Memory([vouch, ("final", B3)]).vouches(), [(-7, 2, "x")])
        self.assertEqual(Memory([vouch, ("final", B3), ("final", B5)]).vouches(), [])
        records = [vouch, ("final", B3), ("final", B5), ("vouch", (-7, 3, "y"))]
        self.assertEqual(Memory(records).vouches(), [(-7, 3, "y")])

    def test_lists_are_the_callers(self):
        records = [("vote", B3), ("ready", B3), ("vouch", (-1, 1, "")), ("final", B3)]
        memory = Memory(records)
        records.append(5)
        expected = copy.deepcopy(told(memory))
        for found in (memory.finals(), memory.votes(), memory.readies(), memory.vouches()):
            found.append(1)
            found[0] = 2
        self.assertEqual(told(memory), expected)

    def test_arguments_stay(self):
        for records, _ in LISTS[:30]:
            given = list(records)
            Memory(given).fits(("mark", 0, 0))
            reduce(given)
            self.assertEqual(given, records)
        given = [("vote", B3)]
        Memory(given).add(("ready", B3))
        self.assertEqual(given, [("vote", B3)])

    def test_two_memories_side_by_side(self):
        first, second = Memory([]), Memory([])
        first.add(("vote", B3))
        self.assertEqual(told(second), ([], None, [], [], [], 0, 0))

    def test_bad_record_at_each_place(self):
        records = [("final", B3), ("vote", B5), ("ready", B5)]
        for at in range(4):
            for bad in (("final", B3), ("mark", 1, 1), 5, None):
                if at == 0 and bad in (("final", B3), ("mark", 1, 1)):
                    continue
                with self.assertRaises(BadRecord):
                    Memory(records[:at] + [bad] + records[at:])
                with self.assertRaises(BadRecord):
                    reduce(records[:at] + [bad] + records[at:])

    def test_random_lists(self):
        for records, _ in LISTS:
            self.assertEqual(told(Memory(records)), meaning(records))


class ReduceTest(unittest.TestCase):
    def test_empty(self):
        self.assertEqual(reduce([]), [])

    def test_without_a_mark(self):
        new_vote, new_ready = ("vote", (6, 5, 4, ())), ("ready", (7, 0, 1, ()))
        records = [
            ("vote", B3), ("ready", B3), ("vouch", (-2, 4, "b")), ("vote", (4, 3, 4, ())), ("ready", (5, 3, 2, ())), new_ready,
            ("vouch", (-1, 1, "q")), new_vote, ("state", 0, "s"), ("final", B3), ("vouch", (-7, 3, "r")), ("final", B5),
            ("state", 1, "t"), ("vouch", (-1, 2, "u")),
        ]
        self.assertEqual(reduce(records), [
            ("mark", 4, 3), ("final", B3), ("final", B5), ("state", 1, "t"), new_vote, new_ready, ("vouch", (-7, 3, "r")),
            ("vouch", (-1, 2, "u")),
        ])

    def test_no_old_vote(self):
        records = [("vote", (6, 5, 4, ())), ("ready", B3), ("final", B3), ("final", B5)]
        self.assertEqual(reduce(records), [("final", B3), ("final", B5), ("vote", (6, 5, 4, ()))])

    def test_votes_and_readies_at_the_last_final_epoch(self):
        records = [("vote", (5, 4, 2, ())), ("vote", (6, 4, 2, ())), ("ready", (5, 4, 2, ())), ("ready", (6, 4, 2, ())),
                   ("final", B3), ("final", B5)]
        self.assertEqual(reduce(records), [
            ("mark", 5, 1), ("final", B3), ("final", B5), ("vote", (6, 4, 2, ())), ("ready", (6, 4, 2, ()))])

    def test_no_final_block(self):
        records = [("ready", (9, 0, 1, ())), ("vouch", (-1, 1, "")), ("vote", (1, 0, 1, ())), ("state", 0, ""),
                   ("ready", (2, 0, 1, ()))]
        self.assertEqual(reduce(records), [
            ("state", 0, ""), ("vote", (1, 0, 1, ())), ("ready", (9, 0, 1, ())), ("ready", (2, 0, 1, ())),
            ("vouch", (-1, 1, ""))])

    def test_mark(self):
        mark_and_final = [("mark", 2, 7), ("final", B3)]
        self.assertEqual(reduce(mark_and_final), mark_and_final)
        self.assertEqual(reduce([("mark", 0, 0)]), [("mark", 0, 0)])
        self.assertEqual(reduce([("mark", 2, 7), ("vote", B3), ("final", B3)]), [("mark", 3, 7), ("final", B3)])
        self.assertEqual(reduce([("mark", 2, 1), ("vote", (3, 2, 3, ())), ("final", B3)]), [("mark", 3, 2), ("final", B3)])
        records = [("mark", 2, 1), ("vote", (8, 7, 5, ())), ("final", B3)]
        self.assertEqual(reduce(records), [("mark", 2, 1), ("final", B3), ("vote", (8, 7, 5, ()))])
        records = [("mark", 90, 1), ("final", B3)]
        self.assertEqual(reduce(records), records)

    def test_last_checkpoint_alone(self):
        records = [("state", 0, "a"), ("final", B3), ("state", 1, "b"), ("state", 1, "c"), ("final", B5)]
        self.assertEqual(reduce(records), [("final", B3), ("final", B5), ("state", 1, "c")])

    def test_random_lists(self):
        for records, candidates in LISTS:
            reduced = reduce(records)
            self.assertEqual(reduced, reduction(records))
            self.assertEqual(reduce(reduced), reduced)
            before, after = told(Memory(records)), told(Memory(reduced))
            settled = last_final_epoch(records)
            self.assertEqual(before[:3] + before[5:], after[:3] + after[5:])
            self.assertEqual([vote for vote in before[3] if vote[0] > settled], after[3])
            self.assertEqual([ready for ready in before[4] if ready[0] > settled], after[4])
            for record in candidates:
                self.assertIs(Memory(reduced).fits(record), Memory(records).fits(record))

    def test_random_lists_say_much(self):
        marks = [records for records, _ in LISTS if records and records[0][0] == "mark"]
        shorter = [records for records, _ in LISTS if len(reduce(records)) < len(records)]
        self.assertGreater(len(marks), 20)
        self.assertGreater(len(shorter), 100)
        self.assertGreater(sum([valid_next(records, record) for records, rows in LISTS for record in rows]), 300)


if __name__ == "__main__":
    unittest.main()
