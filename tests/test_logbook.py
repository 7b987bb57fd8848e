"""Points 216 to 218: the logbook, and what a crash leaves of it (point 212)."""

import copy
import random
import unittest

from oathledger.disk import Disk
from oathledger.errors import BadRecord, BadText, DiskCrashed, JournalError, JournalFull
from oathledger.journal import Journal
from oathledger.logbook import Logbook
from tests.disks import LoggingDisk, crashed_copies, disk_with, log_of
from tests.records import meaning, random_record, reduction, told, valid_next
from tests.values import STRANGE

B3 = (3, 0, 1, ((-7, 1, "a"), (-2, 4, "b")))
B5 = (5, 3, 2, ((-7, 2, "c"),))
EACH_KIND = [("mark", 2, 1), ("vouch", (-7, 1, "a")), ("vote", B3), ("ready", B3), ("final", B3), ("state", 1, "text")]


def pieces(record):
    """The number of sectors that a record takes."""
    return Journal(Disk(300)).needed(record)


def logbook_with(records, size=300):
    """A disk and a logbook with these records, flushed."""
    disk = LoggingDisk(size)
    logbook = Logbook(disk)
    for record in records:
        logbook.note(record)
    logbook.flush()
    disk.taken()
    return disk, logbook


def tight_disk(records, spare):
    """A disk and a logbook whose area has that many free sectors behind these records."""
    return logbook_with(records, 2 + 2 * (sum([pieces(record) for record in records]) + spare))


def seen(disk, logbook):
    """All that is seen of a logbook and its disk."""
    sectors = [disk.read(index) for index in range(disk.size())]
    return logbook.records(), told(logbook.memory()), sectors, disk.pending(), disk.image()


class CreationTest(unittest.TestCase):
    def test_empty(self):
        logbook = Logbook(Disk(4))
        self.assertEqual(logbook.records(), [])
        self.assertEqual(told(logbook.memory()), ([], None, [], [], [], 0, 0))

    def test_it_creates_the_journal(self):
        first, second = LoggingDisk(20), LoggingDisk(20)
        Journal(first)
        Logbook(second)
        self.assertEqual(first.taken(), second.taken())

    def test_what_the_journal_raises(self):
        with self.assertRaises(JournalError):
            Logbook(Disk(3))
        disk = Disk(20)
        disk.arm(0)
        with self.assertRaises(DiskCrashed):
            Logbook(disk)
        # The one sector of area 0 has a record of one piece; written anew, its payloads of one character are too many.
        texts = {0: "H 1 0", 2: "P 1 0 3 t", 3: "P 1 1 2 1", 4: "P 1 2 1 :", 5: "P 1 3 0 n"}
        self.assertEqual(Journal(disk_with(10, texts)).records(), [(None,)])

    def test_records_that_are_not_valid(self):
        cases = [
            [5], ["vote"], [()], [("vote",)], [("vote", B5), ("vote", B3)], [("final", B5)], [("final", B3), ("final", B3)],
            [("vote", B3), ("mark", 1, 1)], [("state", 1, "a")], [("ready", B3), ("ready", B3)], [("final", B3), ("vouch", B3)],
            [("final", B3), ("vouch", (-7, 1, "b"))],
        ]
        for records in cases:
            disk = disk_with(102, {0: "H 4 0", **log_of(4, records, 2)})
            with self.assertRaises(BadRecord):
                Logbook(disk)
            with self.assertRaises(BadRecord):
                Logbook(disk)
        self.assertEqual(Logbook(disk_with(102, {0: "H 4 0", **log_of(4, [("vote", B3)], 2)})).records(), [("vote", B3)])

    def test_records_come_back(self):
        disk, logbook = logbook_with(EACH_KIND)
        again = Logbook(disk)
        self.assertEqual(again.records(), EACH_KIND)
        self.assertEqual(told(again.memory()), told(logbook.memory()))
        again.note(("final", B5))
        self.assertEqual(again.records(), EACH_KIND + [("final", B5)])


class NoteTest(unittest.TestCase):
    def test_each_kind(self):
        disk = LoggingDisk(300)
        logbook = Logbook(disk)
        disk.taken()
        for count, record in enumerate(EACH_KIND):
            self.assertIsNone(logbook.note(record))
            self.assertEqual(len(disk.taken()), pieces(record))
            self.assertEqual(logbook.records(), EACH_KIND[:count + 1])
            self.assertEqual(told(logbook.memory()), meaning(EACH_KIND[:count + 1]))

    def test_note_writes_without_a_sync(self):
        disk, logbook = logbook_with([("vote", B3)])
        logbook.note(("ready", B3))
        self.assertEqual(len(disk.pending()), pieces(("ready", B3)))
        self.assertIsNone(logbook.flush())
        self.assertEqual(disk.pending(), [])
        self.assertEqual(disk.taken()[-1], "sync")

    def test_flush_is_one_sync(self):
        disk, logbook = logbook_with([("vote", B3)])
        logbook.flush()
        self.assertEqual(disk.taken(), ["sync"])

    def assert_refused(self, disk, logbook, record, error):
        before = seen(disk, logbook)
        with self.assertRaises(error):
            logbook.note(record)
        self.assertEqual(seen(disk, logbook), before)
        self.assertEqual(disk.taken(), [])

    def test_record_that_does_not_fit(self):
        disk, logbook = logbook_with(EACH_KIND)
        bad = [("mark", 9, 9), ("final", B3), ("state", 0, "a"), ("state", 2, "a"), ("vouch", (-7, 1, "b")), ("vote", B3),
               ("ready", B3), ("ready", (5, 3, 2)), ("read", B5), (), ("vote",), [("vote", B5)], "vote", 7]
        for record in bad + STRANGE:
            self.assert_refused(disk, logbook, record, BadRecord)
        logbook.note(("ready", B5))
        self.assertEqual(logbook.records(), EACH_KIND + [("ready", B5)])

    def test_bad_record_comes_before_the_room_and_the_text(self):
        disk, logbook = tight_disk(EACH_KIND, 0)
        self.assert_refused(disk, logbook, ("ready", B3), BadRecord)
        self.assert_refused(disk, logbook, ("state", 0, "a" * 200000), BadRecord)
        self.assert_refused(disk, logbook, ("vote", 0.5), BadRecord)

    def test_text_that_is_too_long(self):
        disk, logbook = logbook_with([("final", B3)])
        self.assert_refused(disk, logbook, ("state", 1, "a" * 100000), BadText)
        disk, logbook = tight_disk([("final", B3)], 0)
        self.assert_refused(disk, logbook, ("state", 1, "a" * 100000), BadText)

    def test_longest_text(self):
        # Around the text of a checkpoint stand t3:s5:statei0;s99976: with 21 characters.
        _, logbook = logbook_with([], 5100)
        with self.assertRaises(BadText):
            logbook.note(("state", 0, "a" * 99980))
        logbook.note(("state", 0, "a" * 99979))
        self.assertEqual(logbook.memory().checkpoint(), (0, "a" * 99979))

    def test_lists_are_the_callers(self):
        _, logbook = logbook_with([("vote", B3)])
        logbook.records().append(5)
        memory = logbook.memory()
        memory.add(("final", B3))
        memory.votes().append(B5)
        self.assertEqual(logbook.records(), [("vote", B3)])
        self.assertEqual(told(logbook.memory()), meaning([("vote", B3)]))
        logbook.note(("final", B3))
        self.assertEqual(logbook.memory().finals(), [B3])

    def test_the_crash_passes_through(self):
        for call in (lambda book: book.note(("vote", B3)), lambda book: book.flush(), lambda book: book.shorten()):
            disk, logbook = logbook_with([])
            disk.arm(0)
            with self.assertRaises(DiskCrashed):
                call(logbook)


class RoomTest(unittest.TestCase):
    # The first vote and the first vouch are dropped by reduce.
    OLD = [("vote", B3), ("vouch", (-7, 1, "x" * 200)), ("final", B3)]
    NEW = ("ready", B5)

    def test_exactly_enough_room(self):
        disk, logbook = tight_disk(self.OLD, pieces(self.NEW))
        logbook.note(self.NEW)
        self.assertEqual(logbook.records(), self.OLD + [self.NEW])
        self.assertNotIn("sync", disk.taken())

    def test_one_sector_too_few(self):
        disk, logbook = tight_disk(self.OLD, pieces(self.NEW) - 1)
        other = copy.deepcopy(disk)
        logbook.note(self.NEW)
        expected = [("mark", 3, 0), ("final", B3), self.NEW]
        self.assertEqual(logbook.records(), expected)
        self.assertEqual(reduction(self.OLD) + [self.NEW], expected)
        self.assertEqual(told(logbook.memory()), meaning(expected))
        # The very writes of a compaction to this list, after which the record counts as flushed.
        journal = Journal(other)
        journal.compact(reduction(self.OLD))
        self.assertEqual(disk.pending(), [])
        disk.crash([])
        self.assertEqual(Logbook(disk).records(), expected)

    def test_the_compaction_is_one_log(self):
        disk, logbook = tight_disk(self.OLD, 0)
        logbook.note(self.NEW)
        taken = disk.taken()
        self.assertEqual(len(taken), sum([pieces(record) for record in logbook.records()]) + 3)
        self.assertEqual([at for at, step in enumerate(taken) if step == "sync"], [len(taken) - 3, len(taken) - 1])

    def test_records_fit_as_before_after_a_compaction(self):
        _, logbook = tight_disk(self.OLD, 0)
        logbook.note(self.NEW)
        for record in (("vote", B3), ("ready", B5), ("vouch", (-7, 1, "y")), ("mark", 1, 1), ("final", B3)):
            with self.assertRaises(BadRecord):
                logbook.note(record)
        logbook.note(("vote", B5))
        self.assertEqual(logbook.records(), [("mark", 3, 0), ("final", B3), self.NEW, ("vote", B5)])

    def test_exactly_enough_room_after_the_compaction(self):
        records = [("vote", B3), ("final", B3), ("ready", (9, 0, 1, ((-3, 1, "f" * 240),)))]
        new = ("vouch", (-9, 1, "v" * 240))
        needed = sum([pieces(record) for record in reduction(records) + [new]])
        spare = needed - sum([pieces(record) for record in records])
        self.assertGreater(spare, 1)
        self.assertLess(spare, pieces(new))
        for less, full in ((0, False), (1, True)):
            disk, logbook = tight_disk(records, spare - less)
            before = seen(disk, logbook)
            if full:
                with self.assertRaises(JournalFull):
                    logbook.note(new)
                self.assertEqual(seen(disk, logbook), before)
                self.assertEqual(disk.taken(), [])
                self.assertEqual(Logbook(disk).records(), records)
            else:
                logbook.note(new)
                self.assertEqual(logbook.records(), reduction(records) + [new])
                self.assertEqual(Logbook(disk).records(), reduction(records) + [new])

    def test_it_goes_on_after_a_full_journal(self):
        disk, logbook = tight_disk([("final", B3), ("vote", B5)], 2)
        long_vouch = ("vouch", (-9, 1, "v" * 240))
        for _ in range(2):
            with self.assertRaises(JournalFull):
                logbook.note(long_vouch)
        logbook.note(("vouch", (-9, 1, "")))
        logbook.flush()
        self.assertEqual(logbook.records(), [("final", B3), ("vote", B5), ("vouch", (-9, 1, ""))])
        self.assertEqual(Logbook(disk).records(), logbook.records())

    def test_no_room_and_nothing_to_drop(self):
        disk, logbook = tight_disk([("final", B3)], 0)
        before = seen(disk, logbook)
        with self.assertRaises(JournalFull):
            logbook.note(("final", B5))
        self.assertEqual(seen(disk, logbook), before)


class ShortenTest(unittest.TestCase):
    RECORDS = EACH_KIND + [("final", B5), ("vote", (8, 5, 3, ())), ("state", 2, "u"), ("vouch", (-1, 1, ""))]

    def test_shorten(self):
        disk, logbook = logbook_with(self.RECORDS)
        self.assertIsNone(logbook.shorten())
        reduced = [("mark", 3, 1), ("final", B3), ("final", B5), ("state", 2, "u"), ("vote", (8, 5, 3, ())),
                   ("vouch", (-1, 1, ""))]
        self.assertEqual(logbook.records(), reduced)
        self.assertEqual(told(logbook.memory()), meaning(reduced))
        self.assertEqual(disk.taken().count("sync"), 2)
        self.assertEqual(disk.pending(), [])
        disk.crash([])
        self.assertEqual(Logbook(disk).records(), reduced)

    def test_it_compacts_also_what_is_short(self):
        disk, logbook = logbook_with([("final", B3)])
        logbook.shorten()
        self.assertEqual(disk.taken().count("sync"), 2)
        self.assertEqual(logbook.records(), [("final", B3)])

    def test_records_that_were_not_flushed(self):
        disk, logbook = logbook_with([])
        logbook.note(("vote", B3))
        logbook.shorten()
        disk.crash([])
        self.assertEqual(Logbook(disk).records(), [("vote", B3)])

    def test_notes_go_on(self):
        _, logbook = logbook_with(self.RECORDS)
        logbook.shorten()
        with self.assertRaises(BadRecord):
            logbook.note(("vouch", (-7, 2, "")))
        logbook.note(("vouch", (-7, 3, "")))
        self.assertEqual(logbook.records()[-1], ("vouch", (-7, 3, "")))


class Run:
    """A run of steps on a logbook, with what a crash may leave."""

    def __init__(self, disk):
        self.disk = disk
        self.synced = []
        self.later = []
        self.compacting = None

    def play(self, steps):
        logbook = Logbook(self.disk)
        for step in steps:
            records = self.synced + self.later
            if step == "flush":
                logbook.flush()
                self.synced, self.later = records, []
            elif step == "shorten":
                self.replace(lambda: logbook.shorten(), reduction(records))
            else:
                room = (self.disk.size() - 2) // 2 - sum([pieces(record) for record in records])
                if pieces(step) > room:
                    self.replace(lambda: logbook.note(step), reduction(records) + [step])
                else:
                    logbook.note(step)
                    self.later.append(step)
        return logbook

    def replace(self, call, records):
        self.compacting = records
        call()
        self.synced, self.later, self.compacting = records, [], None

    def allowed(self):
        """The lists of records that may be recovered."""
        lists = [self.synced + self.later[:count] for count in range(len(self.later) + 1)]
        if self.compacting is not None:
            lists.append(self.compacting)
        return lists


STEPS = [
    ("vouch", (-7, 1, "a")), ("vote", B3), "flush", ("ready", B3), ("final", B3), ("vote", B5), ("ready", B5), "flush",
    ("final", B5), ("state", 2, "t0:"), "shorten", ("vouch", (-7, 3, "c" * 50)), ("vote", (8, 5, 3, ())), "flush",
    ("ready", (8, 5, 3, ())), ("final", (8, 5, 3, ())), ("vote", (9, 8, 4, ())), ("ready", (9, 8, 4, ())), "flush",
]


def crashes(size):
    """Each run of the steps that crashes at some operation of the disk, before the power failure."""
    runs = []
    while True:
        disk = Disk(size)
        run = Run(disk)
        disk.arm(len(runs))
        try:
            run.play(STEPS)
        except DiskCrashed:
            runs.append(run)
            continue
        return runs


# On 46 sectors, no note compacts; on 24, one does; on 22, two do.
SIZES = {46: 8, 24: 10, 22: 12}


class CrashTest(unittest.TestCase):
    def test_no_crash(self):
        for size, syncs in SIZES.items():
            disk = LoggingDisk(size)
            run = Run(disk)
            logbook = run.play(STEPS)
            self.assertEqual(disk.taken().count("sync"), syncs)
            self.assertEqual(logbook.records(), run.synced)
            self.assertEqual(told(logbook.memory()), meaning(run.synced))

    def test_a_crash_at_every_operation(self):
        for size in SIZES:
            runs = crashes(size)
            self.assertGreater(len(runs), 30)
            for run in runs:
                for disk in crashed_copies(run.disk):
                    logbook = Logbook(disk)
                    self.assertIn(logbook.records(), run.allowed())
                    self.assertEqual(told(logbook.memory()), meaning(logbook.records()))

    def test_a_recovery_that_crashes(self):
        for run in crashes(22):
            for disk in crashed_copies(run.disk):
                operations = 0
                while operations >= 0:
                    other = copy.deepcopy(disk)
                    other.arm(operations)
                    try:
                        Logbook(other)
                        operations = -1
                    except DiskCrashed:
                        operations += 1
                        other.crash([True, False, True])
                        self.assertIn(Logbook(other).records(), run.allowed())

    def test_what_was_flushed_is_not_lost(self):
        kept = {"flush": 0, "shorten": 0, "note": 0}
        for size in SIZES:
            for count, step in enumerate(STEPS):
                disk = LoggingDisk(size)
                run = Run(disk)
                logbook = run.play(STEPS[:count + 1])
                if run.later or disk.operations[-1] != "sync":
                    continue
                kept[step if isinstance(step, str) else "note"] += 1
                disk.crash([])
                self.assertEqual(Logbook(disk).records(), logbook.records())
        self.assertEqual(kept, {"flush": 12, "shorten": 3, "note": 3})


class RandomTest(unittest.TestCase):
    def test_random_runs(self):
        rng = random.Random(5)
        counts = {"compact": 0, "full": 0, "note": 0, "bad": 0}
        for _ in range(100):
            disk = Disk(rng.randrange(16, 60))
            run = Run(disk)
            logbook = run.play([])
            for _ in range(60):
                records = run.synced + run.later
                record = random_record(rng, records)
                full = (disk.size() - 2) // 2
                if not valid_next(records, record):
                    counts["bad"] += 1
                    self.assertRaises(BadRecord, logbook.note, record)
                elif sum([pieces(each) for each in records + [record]]) <= full:
                    counts["note"] += 1
                    logbook.note(record)
                    run.later.append(record)
                elif sum([pieces(each) for each in reduction(records) + [record]]) <= full:
                    counts["compact"] += 1
                    logbook.note(record)
                    run.synced, run.later = reduction(records) + [record], []
                else:
                    counts["full"] += 1
                    self.assertRaises(JournalFull, logbook.note, record)
                self.assertEqual(logbook.records(), run.synced + run.later)
                self.assertEqual(told(logbook.memory()), meaning(run.synced + run.later))
                if rng.randrange(8) == 0:
                    disk.crash([rng.randrange(2) == 1 for _ in disk.pending()])
                    logbook = Logbook(disk)
                    self.assertIn(logbook.records(), run.allowed())
                    run.synced, run.later = logbook.records(), []
        self.assertGreater(min(counts.values()), 30, counts)


if __name__ == "__main__":
    unittest.main()
