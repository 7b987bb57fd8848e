"""Points 207 to 212: the journal."""

import copy
import itertools
import unittest

from oathledger.disk import Disk
from oathledger.errors import BadText, DiskCrashed, JournalError, JournalFull
from oathledger.journal import Journal
from oathledger.sectors import format_head, format_piece
from oathledger.texts import encode
from tests.disks import LoggingDisk, crashed_copies, disk_with, log_of, record_of
from tests.values import PERCENT, nest


def recovered(size, texts):
    """The records that a journal recovers from such a disk."""
    return Journal(disk_with(size, texts)).records()


class SizesTest(unittest.TestCase):
    def test_too_small(self):
        for size in (1, 2, 3):
            with self.assertRaises(JournalError):
                Journal(Disk(size))

    def test_too_small_changes_nothing(self):
        disk = LoggingDisk(3)
        with self.assertRaises(JournalError):
            Journal(disk)
        self.assertEqual(disk.taken(), [])

    def test_room(self):
        for size, room in [(4, 1), (5, 1), (6, 2), (7, 2), (300, 149), (301, 149)]:
            journal = Journal(Disk(size))
            self.assertEqual(journal.room(), room)
            self.assertEqual(journal.records(), [])
            self.assertEqual(journal.generation(), 1)

    def test_areas(self):
        for size, first, second in [(4, 2, 3), (5, 2, 3), (6, 2, 4), (7, 2, 4), (20, 2, 11), (21, 2, 11)]:
            disk = LoggingDisk(size)
            journal = Journal(disk)
            disk.taken()
            for generation, sector in [(1, first), (2, second), (3, first)]:
                journal.append(5)
                self.assertEqual(disk.taken(), [(sector, f"P {generation} 0 0 i5;")])
                journal.compact([])
                disk.taken()

    def test_last_sectors_of_the_areas(self):
        for size in (6, 7):
            disk = Disk(size)
            journal = Journal(disk)
            for sectors in ([2, 3], [4, 5]):
                journal.append(1)
                journal.append(2)
                self.assertEqual(journal.room(), 0)
                self.assertEqual(disk.pending(), sectors)
                with self.assertRaises(JournalFull):
                    journal.append(3)
                journal.compact([])


class WritesTest(unittest.TestCase):
    def test_creation(self):
        disk = LoggingDisk(10)
        Journal(disk)
        self.assertEqual(disk.taken(), ["sync", (0, "H 1 0"), "sync"])

    def test_append(self):
        disk = LoggingDisk(20)
        journal = Journal(disk)
        disk.taken()
        self.assertIsNone(journal.append((1, "ab", ())))
        self.assertEqual(disk.taken(), [(2, "P 1 0 0 t3:i1;s2:abt0:")])
        journal.append("x" * 85)
        self.assertEqual(disk.taken(), [
            (3, "P 1 1 2 s85:" + "x" * 36), (4, "P 1 2 1 " + "x" * 40), (5, "P 1 3 0 " + "x" * 9)])
        journal.append(" " * 40)
        self.assertEqual(disk.taken(), [(6, "P 1 4 1 s40:" + " " * 36), (7, "P 1 5 0 " + " " * 4)])
        journal.append("y" * 36)
        self.assertEqual(disk.taken(), [(8, "P 1 6 0 s36:" + "y" * 36)])
        journal.append(None)
        self.assertEqual(disk.taken(), [(9, "P 1 7 0 n")])
        self.assertEqual(journal.room(), 1)
        self.assertEqual(journal.records(), [(1, "ab", ()), "x" * 85, " " * 40, "y" * 36, None])
        self.assertEqual(disk.pending(), [2, 3, 4, 5, 6, 7, 8, 9])

    def test_sync(self):
        disk = LoggingDisk(20)
        journal = Journal(disk)
        journal.append(1)
        disk.taken()
        self.assertIsNone(journal.sync())
        self.assertEqual(disk.taken(), ["sync"])
        self.assertEqual(disk.pending(), [])
        self.assertEqual((journal.records(), journal.room(), journal.generation()), ([1], 8, 1))

    def test_compact(self):
        disk = LoggingDisk(20)
        journal = Journal(disk)
        journal.append("a")
        journal.append("b")
        disk.taken()
        self.assertIsNone(journal.compact(["x" * 40, 7]))
        self.assertEqual(disk.taken(), [
            (11, "P 2 0 1 s40:" + "x" * 36), (12, "P 2 1 0 xxxx"), (13, "P 2 2 0 i7;"), "sync", (1, "H 2 1"), "sync"])
        self.assertEqual((journal.records(), journal.room(), journal.generation()), (["x" * 40, 7], 6, 2))
        journal.append(8)
        self.assertEqual(disk.taken(), [(14, "P 2 3 0 i8;")])
        journal.compact([9])
        self.assertEqual(disk.taken(), [(2, "P 3 0 0 i9;"), "sync", (0, "H 3 0"), "sync"])
        journal.compact([])
        self.assertEqual(disk.taken(), ["sync", (1, "H 4 1"), "sync"])
        self.assertEqual((journal.records(), journal.room(), journal.generation()), ([], 9, 4))

    def test_recovery_writes_a_new_log(self):
        disk = LoggingDisk(20)
        journal = Journal(disk)
        journal.append("x" * 40)
        journal.append(7)
        journal.sync()
        disk.taken()
        again = Journal(disk)
        self.assertEqual(disk.taken(), [
            (11, "P 2 0 1 s40:" + "x" * 36), (12, "P 2 1 0 xxxx"), (13, "P 2 2 0 i7;"), "sync", (1, "H 2 1"), "sync"])
        self.assertEqual((again.records(), again.room(), again.generation()), (["x" * 40, 7], 6, 2))
        again.append(8)
        self.assertEqual(disk.taken(), [(14, "P 2 3 0 i8;")])
        third = Journal(disk)
        self.assertEqual(disk.taken(), [
            (2, "P 3 0 1 s40:" + "x" * 36), (3, "P 3 1 0 xxxx"), (4, "P 3 2 0 i7;"), (5, "P 3 3 0 i8;"), "sync",
            (0, "H 3 0"), "sync"])
        self.assertEqual(third.records(), ["x" * 40, 7, 8])

    def test_needed(self):
        disk = LoggingDisk(6)
        journal = Journal(disk)
        disk.taken()
        for size in range(1, 130):
            record = "x" * size
            self.assertEqual(journal.needed(record), -(-len(encode(record)) // 40))
        self.assertEqual([journal.needed(record_of(pieces)) for pieces in (1, 2, 3)], [1, 2, 3])
        self.assertEqual([journal.needed(record_of(pieces) + "a") for pieces in (1, 2, 3)], [2, 3, 4])
        for bad in ([], 1.0, PERCENT, nest(13), "a" * 100000):
            with self.assertRaises(BadText):
                journal.needed(bad)
        self.assertEqual(disk.taken(), [])

    def test_lists_are_the_callers(self):
        journal = Journal(Disk(20))
        journal.append(1)
        journal.records().append(2)
        self.assertEqual(journal.records(), [1])
        given = [3, 4]
        journal.compact(given)
        self.assertEqual(given, [3, 4])
        given.append(5)
        self.assertEqual(journal.records(), [3, 4])
        journal.append(6)
        self.assertEqual(given, [3, 4, 5])

    def test_compact_to_its_own_records(self):
        journal = Journal(Disk(20))
        journal.append(1)
        journal.append(2)
        journal.compact(journal.records())
        self.assertEqual(journal.records(), [1, 2])


class RefusedTest(unittest.TestCase):
    def assert_unchanged(self, disk, journal, error, call):
        before = (journal.records(), journal.room(), journal.generation(), disk.pending(), disk.image())
        disk.taken()
        with self.assertRaises(error):
            call()
        self.assertEqual((journal.records(), journal.room(), journal.generation(), disk.pending(), disk.image()), before)
        self.assertEqual(disk.taken(), [])

    def journals(self):
        """A journal with nothing pending, and one with pending pieces; both have room for two pieces."""
        found = []
        for synced in (True, False):
            disk = LoggingDisk(10)
            journal = Journal(disk)
            journal.append(record_of(2))
            if synced:
                journal.sync()
            self.assertEqual(journal.room(), 2)
            found.append((disk, journal))
        return found

    def test_append(self):
        for disk, journal in self.journals():
            for bad in ([], (1, [2]), 1.0, PERCENT, nest(13), "a" * 100000):
                self.assert_unchanged(disk, journal, BadText, lambda: journal.append(bad))
            for full in (record_of(2) + "a", record_of(3), "a" * 90000):
                self.assert_unchanged(disk, journal, JournalFull, lambda: journal.append(full))
            journal.append(record_of(2, "b"))
            self.assertEqual((journal.room(), journal.records()), (0, [record_of(2), record_of(2, "b")]))
            self.assert_unchanged(disk, journal, JournalFull, lambda: journal.append(None))
            self.assert_unchanged(disk, journal, BadText, lambda: journal.append(PERCENT))

    def test_compact(self):
        one, two = record_of(1), record_of(2)
        for disk, journal in self.journals():
            for bad in ([[]], [1, 2, PERCENT], [PERCENT, 1], [1, 1.0, 1], [1, "a" * 100000], [two, two, one, PERCENT]):
                self.assert_unchanged(disk, journal, BadText, lambda: journal.compact(bad))
            for full in ([one] * 5, [two, two, one], [two, one + "a", one], [one] * 1000, [record_of(5)]):
                self.assert_unchanged(disk, journal, JournalFull, lambda: journal.compact(full))
            journal.compact([two, one, one])
            self.assertEqual((journal.room(), journal.records(), journal.generation()), (0, [two, one, one], 2))
            self.assertEqual(disk.pending(), [])

    def test_smallest_disks(self):
        for size in (4, 5):
            disk = LoggingDisk(size)
            journal = Journal(disk)
            self.assert_unchanged(disk, journal, JournalFull, lambda: journal.append(record_of(2)))
            self.assert_unchanged(disk, journal, JournalFull, lambda: journal.compact([1, 2]))
            journal.append(record_of(1))
            self.assert_unchanged(disk, journal, JournalFull, lambda: journal.append(None))
            journal.compact([7])
            self.assertEqual(Journal(disk).records(), [7])
            self.assertEqual(Journal(disk).generation(), 4)


class ForeignDiskTest(unittest.TestCase):
    """Disks that hold heads and pieces which no journal wrote; areas of 4 sectors begin at 2 and 6."""

    def recovered(self, texts):
        return recovered(10, texts)

    def test_no_head(self):
        for heads in ({}, {0: "P 5 0 0 i1;"}, {1: "P 5 0 0 i1;"}, {0: "x", 1: "H 0 0"}, {0: "H 5 2", 1: "H 05 0"}):
            disk = disk_with(10, {2: "P 5 0 0 i1;", 6: "P 5 0 0 i2;", 3: "H 3 0", **heads})
            journal = Journal(disk)
            self.assertEqual(journal.records(), [])
            self.assertEqual(journal.generation(), 6)
            self.assertEqual(disk.taken(), ["sync", (0, "H 6 0"), "sync"])
            self.assertEqual(journal.room(), 4)

    def test_live_head(self):
        pieces = {2: "P 5 0 0 i1;", 6: "P 4 0 0 i2;"}
        for heads, records, head, area in [
            ({0: "H 5 0", 1: "H 4 1"}, [1], 1, 1),
            ({0: "H 4 1", 1: "H 5 0"}, [1], 0, 1),
            ({0: "H 5 0"}, [1], 1, 1),
            ({1: "H 5 0"}, [1], 0, 1),
            ({0: "H 4 1"}, [2], 1, 0),
            ({1: "H 4 1"}, [2], 0, 0),
            ({0: "H 5 0", 1: "P 9 0 0 x"}, [1], 1, 1),
            ({0: "P 9 0 0 x", 1: "H 4 1"}, [2], 0, 0),
            ({0: "H 4 0", 1: "H 3 1"}, [], 1, 1),
            ({0: "H 9 1", 1: "H 10 0"}, [], 0, 1),
        ]:
            with self.subTest(heads=heads):
                disk = disk_with(10, {**pieces, **heads})
                greatest = 9 if "P 9 0 0 x" in heads.values() else 5
                greatest = 10 if "H 10 0" in heads.values() else greatest
                journal = Journal(disk)
                self.assertEqual(journal.records(), records)
                self.assertEqual(journal.generation(), greatest + 1)
                written = [(2 + 4 * area, f"P {greatest + 1} 0 0 i{record};") for record in records]
                self.assertEqual(disk.taken(), written + ["sync", (head, f"H {greatest + 1} {area}"), "sync"])

    def test_same_generation_in_both_heads(self):
        pieces = {2: "P 5 0 0 i1;", 6: "P 5 0 0 i2;"}
        disk = disk_with(10, {**pieces, 0: "H 5 0", 1: "H 5 1"})
        self.assertEqual(Journal(disk).records(), [1])
        self.assertEqual(disk.taken(), [(6, "P 6 0 0 i1;"), "sync", (1, "H 6 1"), "sync"])
        disk = disk_with(10, {**pieces, 0: "H 5 1", 1: "H 5 0"})
        self.assertEqual(Journal(disk).records(), [2])
        self.assertEqual(disk.taken(), [(2, "P 6 0 0 i2;"), "sync", (1, "H 6 0"), "sync"])

    def test_generations_compare_as_numbers(self):
        pieces = {2: "P 10 0 0 i1;", 6: "P 9 0 0 i2;"}
        self.assertEqual(self.recovered({**pieces, 0: "H 9 1", 1: "H 10 0"}), [1])

    def test_heads_elsewhere_are_not_live(self):
        texts = {0: "H 5 0", 2: "P 5 0 0 i1;", 3: "H 8 1", 6: "P 8 0 0 i2;"}
        disk = disk_with(10, texts)
        journal = Journal(disk)
        self.assertEqual((journal.records(), journal.generation()), ([1], 9))

    def test_greatest_generation_anywhere(self):
        for size in (10, 11):
            for index in range(1, size):
                for text, generation in [("P 77 3 9 zz", 78), ("H 77 1", 78), ("P 3 0 0 i1;", 6), ("junk", 6), ("P 77 0 0 ", 6)]:
                    if index == 1 and text == "H 77 1":
                        continue
                    disk = disk_with(size, {0: "H 5 0", index: text})
                    self.assertEqual(Journal(disk).generation(), generation)

    def test_generation_or_place_of_a_piece_differs(self):
        good = {0: "H 5 0", 2: "P 5 0 0 i1;", 3: "P 5 1 0 i2;", 4: "P 5 2 0 i3;", 5: "P 5 3 0 i4;", 6: "P 5 4 0 i5;"}
        self.assertEqual(self.recovered(good), [1, 2, 3, 4])
        for at in range(4):
            for text in ("", "x", "H 5 0", f"P 4 {at} 0 i9;", f"P 6 {at} 0 i9;", f"P 5 {at + 1} 0 i9;", f"P 5 {at + 4} 0 i9;",
                         f"P 5 0{at} 0 i9;", f"P 5 {at} 0 i9", f"P 5 {at} 0 i09;", f"P 5 {at} 0 i9;n", f"P 5 {at} 1 i9;"):
                with self.subTest(at=at, text=text):
                    self.assertEqual(self.recovered({**good, 2 + at: text}), [1, 2, 3, 4][:at])
            self.assertEqual(self.recovered({**good, 2 + at: f"P 5 {at} 0 i9;"})[at], 9)
        self.assertEqual(self.recovered({**good, 3: "P 5 0 0 i2;"}), [1])

    def test_reading_begins_at_place_0(self):
        self.assertEqual(self.recovered({0: "H 5 0", 3: "P 5 1 0 i2;", 4: "P 5 2 0 i3;"}), [])
        self.assertEqual(self.recovered({0: "H 5 0", 2: "P 5 1 0 i2;"}), [])

    def test_left(self):
        head = {0: "H 5 0"}
        self.assertEqual(self.recovered({**head, 2: "P 5 0 1 s1", 3: "P 5 1 0 :a", 4: "P 5 2 0 n"}), ["a", None])
        self.assertEqual(self.recovered({**head, 2: "P 5 0 2 s", 3: "P 5 1 1 1", 4: "P 5 2 0 :a", 5: "P 5 3 0 y"}), ["a", True])
        self.assertEqual(self.recovered({**head, 2: "P 5 0 3 s", 3: "P 5 1 2 2", 4: "P 5 2 1 :a", 5: "P 5 3 0 b"}), ["ab"])
        for lefts in itertools.product(range(4), repeat=3):
            texts = {2: f"P 5 0 {lefts[0]} s2", 3: f"P 5 1 {lefts[1]} :a", 4: f"P 5 2 {lefts[2]} b"}
            self.assertEqual(self.recovered({**head, **texts}), ["ab"] if lefts == (2, 1, 0) else [])
        for lefts in [(2, 0), (1, 1), (2, 2), (3, 0), (0, 0), (1, 2), (2, 1)]:
            texts = {2: f"P 5 0 {lefts[0]} s1", 3: f"P 5 1 {lefts[1]} :a", 4: "P 5 2 0 n"}
            self.assertEqual(self.recovered({**head, **texts}), [])
        texts = {2: "P 5 0 0 i1;", 3: "P 5 1 1 s1", 4: "P 5 2 1 :a", 5: "P 5 3 0 n"}
        self.assertEqual(self.recovered({**head, **texts}), [1])
        texts = {2: "P 5 0 0 i1;", 3: "P 5 1 2 s", 4: "P 5 2 1 1", 5: "P 5 3 2 :a"}
        self.assertEqual(self.recovered({**head, **texts}), [1])

    def test_record_beyond_the_end_of_the_area(self):
        texts = {0: "H 5 0", 2: "P 5 0 0 i1;", 3: "P 5 1 3 s3", 4: "P 5 2 2 :a", 5: "P 5 3 1 b", 6: "P 5 4 0 c"}
        self.assertEqual(self.recovered(texts), [1])
        texts = {0: "H 5 1", 6: "P 5 0 0 i1;", 9: "P 5 3 0 i4;", 8: "P 5 2 0 i3;", 7: "P 5 1 0 i2;"}
        self.assertEqual(self.recovered(texts), [1, 2, 3, 4])
        self.assertEqual(recovered(11, {**texts, 10: "P 5 4 0 i5;"}), [1, 2, 3, 4])
        self.assertEqual(self.recovered({0: "H 5 0", 2: "P 5 0 " + "9" * 30 + " n"}), [])

    def test_record_that_does_not_count(self):
        for payload in ("x", "i01;", "nn", "s1:" + PERCENT, "s1:\n", "t1:", "\xe9", " n", "n "):
            texts = {0: "H 5 0", 2: "P 5 0 0 i1;", 3: f"P 5 1 0 {payload}", 4: "P 5 2 0 i3;"}
            self.assertEqual(self.recovered(texts), [1])
            texts = {0: "H 5 0", 2: f"P 5 0 0 {payload}", 3: "P 5 1 0 i1;"}
            self.assertEqual(self.recovered(texts), [])
        texts = {0: "H 5 0", 2: "P 5 0 1 s1", 3: "P 5 1 0 :ab", 4: "P 5 2 0 i3;"}
        self.assertEqual(self.recovered(texts), [])

    def test_short_payloads_are_cut_anew(self):
        disk = disk_with(10, {0: "H 5 0", 2: "P 5 0 2 t2:", 3: "P 5 1 1 i1", 4: "P 5 2 0 ;n", 5: "P 5 3 0 y"})
        journal = Journal(disk)
        self.assertEqual((journal.records(), journal.room()), ([(1, None), True], 2))
        self.assertEqual(disk.taken(), [(6, "P 6 0 0 t2:i1;n"), (7, "P 6 1 0 y"), "sync", (1, "H 6 1"), "sync"])

    def test_sectors_of_an_earlier_log_never_count(self):
        journal = Journal(disk_with(10, {0: "H 5 0", 1: "H 4 1", 2: "P 5 0 0 i1;", 3: "P 3 1 0 i2;", 4: "P 5 2 0 i3;"}))
        self.assertEqual(journal.records(), [1])

    def test_stale_pieces_behind_a_new_log(self):
        disk = Disk(12)
        journal = Journal(disk)
        for number in range(5):
            journal.append(number)
        journal.sync()
        journal.compact([7])
        journal.compact([8])
        self.assertEqual(disk.read(3), "P 1 1 0 i1;")
        self.assertEqual(Journal(disk).records(), [8])

    def test_formats_agree(self):
        texts = {0: format_head(5, 0), **log_of(5, ["x" * 60, (1, 2)], 2)}
        self.assertEqual(texts[2], format_piece(5, 0, 1, "s60:" + "x" * 36))
        self.assertEqual(self.recovered(texts), ["x" * 60, (1, 2)])


class Run:
    """A run of steps on a journal, with what a crash may leave (point 212)."""

    def __init__(self, disk):
        self.disk = disk
        self.synced = []
        self.later = []
        self.compacting = None

    def play(self, steps):
        journal = Journal(self.disk)
        self.synced = journal.records()
        for word, value in steps:
            if word == "append":
                journal.append(value)
                self.later.append(value)
            elif word == "sync":
                journal.sync()
                self.synced, self.later = self.synced + self.later, []
            else:
                self.compacting = list(value)
                journal.compact(value)
                self.synced, self.later, self.compacting = list(value), [], None
        return journal

    def allowed(self):
        """The lists of records that may be recovered."""
        lists = [self.synced + self.later[:count] for count in range(len(self.later) + 1)]
        if self.compacting is not None:
            lists.append(self.compacting)
        return lists


STEPS = [
    ("append", "a" * 50), ("append", 1), ("sync", None), ("append", "b" * 100), ("append", 2), ("append", "c" * 60),
    ("compact", [3, "d" * 90, 4]), ("append", 5), ("append", "e" * 45), ("sync", None), ("append", 6), ("sync", None),
    ("append", 7), ("compact", []), ("append", "f" * 80), ("compact", ["g" * 70, "h" * 70]), ("append", 8),
]
SMALL_STEPS = [
    ("append", 1), ("sync", None), ("compact", [2]), ("compact", []), ("append", 3), ("compact", [4]), ("sync", None),
]


class CrashTest(unittest.TestCase):
    def crashes(self, size, steps):
        """Each disk that a crash at some operation leaves, before the power failure, and its run."""
        found = []
        operations = 0
        while True:
            disk = Disk(size)
            run = Run(disk)
            disk.arm(operations)
            try:
                run.play(steps)
            except DiskCrashed:
                found.append((disk, run))
                operations += 1
                continue
            return found

    def assert_recovered(self, disk, run):
        journal = Journal(disk)
        self.assertIn(journal.records(), run.allowed())
        self.assertEqual(disk.pending(), [])
        self.assertEqual(Journal(disk).records(), journal.records())

    def test_no_crash(self):
        for size, steps in ((22, STEPS), (4, SMALL_STEPS), (5, SMALL_STEPS)):
            disk = Disk(size)
            run = Run(disk)
            journal = run.play(steps)
            self.assertEqual(journal.records(), run.synced + run.later)
            self.assertEqual(Journal(disk).records(), run.synced + run.later)

    def test_a_crash_at_every_operation(self):
        for size, steps in ((22, STEPS), (23, STEPS), (4, SMALL_STEPS), (5, SMALL_STEPS)):
            crashes = self.crashes(size, steps)
            self.assertGreater(len(crashes), 10)
            for disk, run in crashes:
                for other in crashed_copies(disk):
                    self.assert_recovered(other, run)

    def test_a_recovery_that_crashes_itself(self):
        for size, steps in ((22, STEPS), (4, SMALL_STEPS), (5, SMALL_STEPS)):
            for disk, run in self.crashes(size, steps):
                for other in crashed_copies(disk):
                    self.assert_repeated(other, run, 1)

    def test_a_recovery_that_crashes_twice(self):
        for disk, run in self.crashes(4, SMALL_STEPS):
            for other in crashed_copies(disk):
                self.assert_repeated(other, run, 2)

    def assert_repeated(self, disk, run, times):
        """Crash the recovery at each of its operations, that many times one after the other."""
        if times == 0:
            self.assert_recovered(disk, run)
            return
        operations = 0
        while True:
            other = copy.deepcopy(disk)
            other.arm(operations)
            try:
                Journal(other)
            except DiskCrashed:
                for left in crashed_copies(other):
                    self.assert_repeated(left, run, times - 1)
                operations += 1
                continue
            return

    def test_appended_records_survive_in_order(self):
        disk = Disk(20)
        journal = Journal(disk)
        journal.append("a" * 50)
        journal.append(1)
        journal.append(2)
        for survivors, records in [
            ([], []), ([True], []), ([True, True], ["a" * 50]), ([True, True, True], ["a" * 50, 1]),
            ([True, True, False, True], ["a" * 50]), ([True] * 4, ["a" * 50, 1, 2]), ([False, True, True, True], []),
        ]:
            other = copy.deepcopy(disk)
            other.crash(survivors)
            self.assertEqual(Journal(other).records(), records)

    def test_a_completed_sync_is_kept(self):
        disk = Disk(20)
        journal = Journal(disk)
        journal.append(1)
        journal.sync()
        journal.append(2)
        disk.crash([])
        self.assertEqual(Journal(disk).records(), [1])

    def test_a_completed_compact_is_kept(self):
        disk = Disk(20)
        journal = Journal(disk)
        journal.append(1)
        journal.compact([2, 3])
        disk.crash([])
        self.assertEqual(Journal(disk).records(), [2, 3])

    def test_crashed_disk(self):
        disk = Disk(20)
        disk.arm(0)
        with self.assertRaises(DiskCrashed):
            Journal(disk)
        with self.assertRaises(DiskCrashed):
            Journal(disk)
        small = Disk(3)
        small.arm(0)
        with self.assertRaises(DiskCrashed):
            small.sync()
        with self.assertRaises(JournalError):
            Journal(small)

    def test_the_crash_passes_through(self):
        for call in (lambda journal: journal.append(1), lambda journal: journal.sync(), lambda journal: journal.compact([])):
            disk = Disk(20)
            journal = Journal(disk)
            disk.arm(0)
            with self.assertRaises(DiskCrashed):
                call(journal)


if __name__ == "__main__":
    unittest.main()
