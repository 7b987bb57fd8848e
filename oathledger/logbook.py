"""A journal of valid records with their memory (points 216 to 218)."""

from oathledger.errors import BadRecord
from oathledger.journal import Journal
from oathledger.memory import Memory, reduce


class Logbook:
    """What a machine must not forget, on a disk."""

    def __init__(self, disk):
        self._journal = Journal(disk)
        self._memory = Memory(self._journal.records())

    def note(self, record):
        """Add a record, and compact the journal if it has no room for it."""
        if not self._memory.fits(record):
            raise BadRecord()
        if self._journal.needed(record) > self._journal.room():
            self._compact(reduce(self._journal.records()) + [record])
        else:
            self._journal.append(record)
            self._memory.add(record)

    def flush(self):
        """Make the records durable."""
        self._journal.sync()

    def shorten(self):
        """Compact the journal to fewer records that say the same."""
        self._compact(reduce(self._journal.records()))

    def memory(self):
        """Return a new memory of the records."""
        return Memory(self._journal.records())

    def records(self):
        """Return a new list of the records of the journal."""
        return self._journal.records()

    def _compact(self, records):
        """Replace the records of the journal."""
        self._journal.compact(records)
        # A new memory, so that it does not grow by old votes that the records no longer hold.
        self._memory = Memory(records)
