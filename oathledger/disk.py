"""A disk of sectors that may crash (points 201 to 205)."""

from oathledger.errors import DiskCrashed, DiskError
from oathledger.texts import is_integer

SECTOR_SIZE = 96


class Disk:
    """Sectors with texts, and the writes to them that are not durable yet.

    An armed disk counts the operations that still pass; if it is not armed, their number is None.
    """

    def __init__(self, size):
        if size < 1:
            raise DiskError()
        self._durable = [""] * size
        self._current = [""] * size
        self._writes = []
        self._passing = None
        self._crashed = False

    def size(self):
        """Return the number of sectors."""
        return len(self._durable)

    def read(self, index):
        """Return the text of the last write to the sector."""
        self._check_running()
        self._check_sector(index)
        return self._current[index]

    def write(self, index, text):
        """Write a sector; the write is pending until the next sync."""
        self._check_running()
        self._check_sector(index)
        if not isinstance(text, str) or len(text) > SECTOR_SIZE:
            raise DiskError()
        self._begin_operation()
        self._current[index] = text
        self._writes.append((index, text))

    def sync(self):
        """Make all pending writes durable."""
        self._check_running()
        self._begin_operation()
        self._durable = list(self._current)
        self._writes = []

    def pending(self):
        """Return the sector numbers of the pending writes, in the order of the writes."""
        return [index for index, _ in self._writes]

    def arm(self, operations):
        """Let that many operations pass, and crash at the one after them."""
        self._passing = operations

    def crash(self, survivors):
        """Fail and start again; survivors tells which of the pending writes become durable."""
        for (index, text), survives in zip(self._writes, survivors):
            if survives:
                self._durable[index] = text
        self._current = list(self._durable)
        self._writes = []
        self._passing = None
        self._crashed = False

    def image(self):
        """Return the durable texts of all sectors."""
        return list(self._durable)

    def _check_running(self):
        """Raise DiskCrashed if the disk has crashed already."""
        if self._crashed:
            raise DiskCrashed()

    def _check_sector(self, index):
        """Raise DiskError if there is no such sector."""
        if not is_integer(index, 0, len(self._durable) - 1):
            raise DiskError()

    def _begin_operation(self):
        """Count an operation of an armed disk, and crash at the one that does not pass."""
        if self._passing is None:
            return
        if self._passing == 0:
            self._crashed = True
            raise DiskCrashed()
        self._passing = self._passing - 1
