"""A journal of records on a disk (points 207 to 212)."""

from oathledger.errors import BadText, JournalError, JournalFull
from oathledger.sectors import cut, format_head, format_piece, parse_sector
from oathledger.texts import decode, encode

HEADS = 2


class Journal:
    """The live log of a disk: the records of the greatest generation that has a head."""

    def __init__(self, disk):
        if disk.size() < HEADS + 2:
            raise JournalError()
        self._disk = disk
        self._size = (disk.size() - HEADS) // 2
        forms = [parse_sector(disk.read(index)) for index in range(disk.size())]
        live = live_sector(forms)
        if live is None:
            # Without a live log, the next log goes to area 0 and to head sector 0, so the last one seems to be in 1.
            self._head = 1
            self._area = 1
            records = []
        else:
            self._head = live
            self._area = forms[live][2]
            first = self._first_sector(self._area)
            records = logged_records(forms[first:first + self._size], forms[live][1])
        self._write_log(greatest_generation(forms) + 1, records)

    def generation(self):
        """Return the generation of the live log."""
        return self._generation

    def records(self):
        """Return a new list of the records of the live log."""
        return list(self._log)

    def needed(self, record):
        """Return the number of pieces of the record."""
        return len(cut(encode(record)))

    def room(self):
        """Return the number of free sectors of the live area."""
        return self._size - self._used

    def append(self, record):
        """Write the record behind the live log; only sync makes it durable."""
        payloads = cut(encode(record))
        if len(payloads) > self.room():
            raise JournalFull()
        self._write_pieces(self._generation, self._area, self._used, payloads)
        self._used = self._used + len(payloads)
        self._log.append(record)

    def sync(self):
        """Make the records durable."""
        self._disk.sync()

    def compact(self, records):
        """Replace the live log by a log of these records."""
        self._write_log(self._generation + 1, records)

    def _first_sector(self, area):
        """Return the number of the sector with place 0 of the area."""
        return HEADS + area * self._size

    def _write_log(self, generation, records):
        """Write the records as a log into the other area, and then the head that makes it the live log."""
        rows = [cut(encode(record)) for record in records]
        if sum([len(payloads) for payloads in rows]) > self._size:
            raise JournalFull()
        area = 1 - self._area
        head = 1 - self._head
        used = 0
        for payloads in rows:
            self._write_pieces(generation, area, used, payloads)
            used = used + len(payloads)
        self._disk.sync()
        self._disk.write(head, format_head(generation, area))
        self._disk.sync()
        self._generation = generation
        self._area = area
        self._head = head
        self._used = used
        self._log = list(records)

    def _write_pieces(self, generation, area, place, payloads):
        """Write the pieces of one record from the place on."""
        first = self._first_sector(area)
        for count, payload in enumerate(payloads):
            left = len(payloads) - 1 - count
            self._disk.write(first + place + count, format_piece(generation, place + count, left, payload))


def head_generation(form):
    """Return the generation of a head, or 0 for what is not a head."""
    if form is None or form[0] != "head":
        return 0
    return form[1]


def live_sector(forms):
    """Return the number of the sector with the live head, or None."""
    generations = [head_generation(form) for form in forms[:HEADS]]
    greatest = max(generations)
    if greatest == 0:
        return None
    return generations.index(greatest)


def greatest_generation(forms):
    """Return the greatest generation of the heads and pieces, or 0."""
    return max([form[1] for form in forms if form is not None], default=0)


def logged_records(forms, generation):
    """Return the records that the sectors of an area hold from place 0 on."""
    records = []
    payloads = []
    # The LEFT of the piece before. It is 0 where a record begins, so that any LEFT is valid there.
    left = 0
    for place, form in enumerate(forms):
        if form is None or form[:3] != ("piece", generation, place):
            return records
        if left > 0 and form[3] != left - 1:
            return records
        left = form[3]
        payloads.append(form[4])
        if left == 0:
            try:
                records.append(decode("".join(payloads)))
            except BadText:
                return records
            payloads = []
    return records
