"""Points 201 to 205: the disk."""

import itertools
import unittest

from oathledger.disk import SECTOR_SIZE, Disk
from oathledger.errors import DiskCrashed, DiskError

BAD_SECTORS = [-1, 3, 4, 1000, -3, "0", None, (0,), True, False, 0.0]
LONG = "x" * 97


def sectors_of(disk):
    """What a read of each sector returns."""
    return [disk.read(index) for index in range(disk.size())]


class NewDiskTest(unittest.TestCase):
    def test_sector_size(self):
        self.assertEqual(SECTOR_SIZE, 96)

    def test_no_sector(self):
        for size in (0, -1, -100):
            with self.assertRaises(DiskError):
                Disk(size)

    def test_new(self):
        for size in (1, 2, 300):
            disk = Disk(size)
            self.assertEqual(disk.size(), size)
            self.assertEqual(sectors_of(disk), [""] * size)
            self.assertEqual(disk.image(), [""] * size)
            self.assertEqual(disk.pending(), [])

    def test_disks_side_by_side(self):
        first, second = Disk(2), Disk(2)
        first.write(0, "a")
        first.arm(0)
        self.assertEqual(second.read(0), "")
        self.assertEqual(second.pending(), [])
        second.write(0, "b")
        self.assertEqual(first.read(0), "a")


class OperationsTest(unittest.TestCase):
    def test_write_and_read(self):
        disk = Disk(3)
        self.assertIsNone(disk.write(1, "one"))
        self.assertEqual(sectors_of(disk), ["", "one", ""])
        self.assertEqual(disk.image(), ["", "", ""])
        disk.write(2, "two")
        disk.write(1, "uno")
        self.assertEqual(sectors_of(disk), ["", "uno", "two"])
        self.assertEqual(disk.pending(), [1, 2, 1])
        self.assertEqual(disk.image(), ["", "", ""])

    def test_sync(self):
        disk = Disk(3)
        disk.write(0, "a")
        disk.write(2, "b")
        disk.write(0, "c")
        self.assertIsNone(disk.sync())
        self.assertEqual(disk.pending(), [])
        self.assertEqual(disk.image(), ["c", "", "b"])
        self.assertEqual(sectors_of(disk), ["c", "", "b"])
        disk.write(0, "")
        self.assertEqual((disk.read(0), disk.image()[0]), ("", "c"))
        disk.sync()
        disk.sync()
        self.assertEqual(disk.image(), ["", "", "b"])

    def test_first_and_last_sector(self):
        disk = Disk(3)
        disk.write(0, "a")
        disk.write(2, "c")
        self.assertEqual((disk.read(0), disk.read(2)), ("a", "c"))
        one = Disk(1)
        one.write(0, "a")
        self.assertEqual(one.read(0), "a")
        with self.assertRaises(DiskError):
            one.read(1)

    def test_texts(self):
        disk = Disk(1)
        for text in ("", " ", "x" * 95, "x" * 96, "\n", "\xe9", "a\x00b"):
            disk.write(0, text)
            self.assertEqual(disk.read(0), text)

    def test_bad_sectors(self):
        disk = Disk(3)
        disk.write(1, "a")
        for index in BAD_SECTORS:
            with self.assertRaises(DiskError):
                disk.read(index)
            with self.assertRaises(DiskError):
                disk.write(index, "x")
        self.assertEqual(disk.pending(), [1])
        self.assertEqual(sectors_of(disk), ["", "a", ""])

    def test_bad_texts(self):
        disk = Disk(3)
        for text in (LONG, "x" * 1000, None, 5, b"a", ("a",), ["a"]):
            with self.assertRaises(DiskError):
                disk.write(0, text)
        self.assertEqual(disk.pending(), [])
        self.assertEqual(sectors_of(disk), ["", "", ""])

    def test_what_is_returned_is_the_callers(self):
        disk = Disk(2)
        disk.write(0, "a")
        disk.pending().append(1)
        disk.image()[1] = "x"
        self.assertEqual(disk.pending(), [0])
        self.assertEqual(disk.image(), ["", ""])
        self.assertEqual(sectors_of(disk), ["a", ""])


class CrashTest(unittest.TestCase):
    WRITES = [(0, "a"), (1, "b"), (0, "c"), (2, "d")]

    def written(self):
        disk = Disk(3)
        disk.write(1, "old")
        disk.sync()
        for index, text in self.WRITES:
            disk.write(index, text)
        return disk

    def test_all_survivors(self):
        for size in range(7):
            for survivors in itertools.product((False, True), repeat=size):
                disk = self.written()
                given = list(survivors)
                self.assertIsNone(disk.crash(given))
                self.assertEqual(given, list(survivors))
                expected = ["", "old", ""]
                for (index, text), survives in zip(self.WRITES, survivors):
                    if survives:
                        expected[index] = text
                self.assertEqual(disk.image(), expected)
                self.assertEqual(sectors_of(disk), expected)
                self.assertEqual(disk.pending(), [])

    def test_two_writes_to_the_same_sector(self):
        for survivors, left in [([True, False, True], "c"), ([True], "a"), ([False, False, True], "c"), ([], "")]:
            disk = self.written()
            disk.crash(survivors)
            self.assertEqual(disk.read(0), left)

    def test_crash_without_writes(self):
        disk = Disk(2)
        disk.crash([True, True])
        self.assertEqual(disk.image(), ["", ""])

    def test_writes_before_a_sync_are_not_lost(self):
        disk = self.written()
        disk.sync()
        disk.crash([])
        self.assertEqual(disk.image(), ["c", "b", "d"])

    def test_survivors_are_durable(self):
        disk = self.written()
        disk.crash([True, True])
        disk.crash([])
        self.assertEqual(disk.image(), ["a", "b", ""])

    def test_work_after_a_crash(self):
        disk = self.written()
        disk.crash([False, True])
        disk.write(2, "e")
        self.assertEqual(disk.pending(), [2])
        self.assertEqual((disk.read(2), disk.image()), ("e", ["", "b", ""]))
        disk.sync()
        self.assertEqual(disk.image(), ["", "b", "e"])


class ArmTest(unittest.TestCase):
    def assert_crashed(self, disk):
        """Each operation raises DiskCrashed, also with invalid arguments, and has no effect."""
        before = (disk.image(), disk.pending(), disk.size())
        for operation in (lambda: disk.read(0), lambda: disk.read(9), lambda: disk.write(0, "z"),
                          lambda: disk.write(9, "z"), lambda: disk.write(0, LONG), lambda: disk.sync()):
            with self.assertRaises(DiskCrashed):
                operation()
        self.assertEqual((disk.image(), disk.pending(), disk.size()), before)

    def test_operations_that_pass(self):
        for operations in range(6):
            disk = Disk(3)
            self.assertIsNone(disk.arm(operations))
            for count in range(operations):
                if count % 2 == 0:
                    disk.write(0, str(count))
                else:
                    disk.sync()
            durable, pending = disk.image(), disk.pending()
            with self.assertRaises(DiskCrashed):
                disk.write(1, "late")
            self.assertEqual((disk.image(), disk.pending()), (durable, pending))
            self.assert_crashed(disk)

    def test_crash_at_a_sync(self):
        disk = Disk(3)
        disk.arm(1)
        disk.write(0, "a")
        with self.assertRaises(DiskCrashed):
            disk.sync()
        self.assertEqual((disk.image(), disk.pending()), (["", "", ""], [0]))
        self.assert_crashed(disk)
        disk.crash([True])
        self.assertEqual(disk.image(), ["a", "", ""])

    def test_crash_at_a_write(self):
        disk = Disk(3)
        disk.write(0, "a")
        disk.arm(0)
        with self.assertRaises(DiskCrashed):
            disk.write(1, "b")
        self.assertEqual(disk.pending(), [0])
        disk.crash([True, True])
        self.assertEqual(disk.image(), ["a", "", ""])

    def test_reads_do_not_count(self):
        disk = Disk(3)
        disk.arm(1)
        for _ in range(10):
            disk.read(0)
        disk.pending()
        disk.image()
        disk.size()
        disk.write(0, "a")
        self.assertEqual(disk.read(0), "a")
        with self.assertRaises(DiskCrashed):
            disk.sync()

    def test_reads_pass_until_the_crash(self):
        disk = Disk(3)
        disk.arm(0)
        self.assertEqual(disk.read(0), "")
        with self.assertRaises(DiskCrashed):
            disk.sync()
        with self.assertRaises(DiskCrashed):
            disk.read(0)

    def test_invalid_arguments_do_not_count(self):
        disk = Disk(3)
        disk.arm(1)
        for index in BAD_SECTORS:
            with self.assertRaises(DiskError):
                disk.write(index, "a")
            with self.assertRaises(DiskError):
                disk.read(index)
        with self.assertRaises(DiskError):
            disk.write(0, LONG)
        disk.write(0, "a")
        with self.assertRaises(DiskError):
            disk.write(3, "a")
        with self.assertRaises(DiskError):
            disk.write(0, LONG)
        self.assertEqual(disk.read(0), "a")
        with self.assertRaises(DiskCrashed):
            disk.write(0, "a")

    def test_order_of_errors(self):
        disk = Disk(3)
        disk.arm(0)
        with self.assertRaises(DiskError):
            disk.write(3, "a")
        with self.assertRaises(DiskError):
            disk.write(0, LONG)
        with self.assertRaises(DiskCrashed):
            disk.write(0, "a")
        self.assert_crashed(disk)

    def test_second_arm(self):
        for first in (0, 1, 2, 5):
            disk = Disk(3)
            disk.arm(first)
            if first:
                disk.sync()
            disk.arm(2)
            disk.write(0, "a")
            disk.sync()
            with self.assertRaises(DiskCrashed):
                disk.sync()

    def test_arm_of_a_crashed_disk(self):
        disk = Disk(3)
        disk.arm(0)
        with self.assertRaises(DiskCrashed):
            disk.sync()
        disk.arm(5)
        self.assert_crashed(disk)
        disk.crash([])
        for _ in range(10):
            disk.write(0, "a")

    def test_crash_disarms(self):
        for operations in (0, 1, 2):
            disk = Disk(3)
            disk.arm(operations)
            disk.crash([])
            for _ in range(5):
                disk.write(0, "a")
                disk.sync()
            self.assertEqual(disk.image(), ["a", "", ""])

    def test_not_armed(self):
        disk = Disk(1)
        for count in range(1000):
            disk.write(0, str(count))
            disk.sync()
        self.assertEqual(disk.image(), ["999"])

    def test_pending_writes_stay_until_crash(self):
        disk = Disk(3)
        disk.arm(3)
        disk.write(0, "a")
        disk.write(1, "b")
        disk.write(0, "c")
        with self.assertRaises(DiskCrashed):
            disk.write(2, "d")
        self.assertEqual(disk.pending(), [0, 1, 0])
        self.assertEqual(disk.image(), ["", "", ""])
        disk.crash([True, True, False])
        self.assertEqual(sectors_of(disk), ["a", "b", ""])


if __name__ == "__main__":
    unittest.main()
