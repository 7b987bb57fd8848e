"""What a list of records means (points 213 to 215)."""

from oathledger.blocks import is_block
from oathledger.errors import BadRecord
from oathledger.limits import MOST_NUMBER
from oathledger.requests import is_command, last_number
from oathledger.texts import is_integer, is_printable


class Memory:
    """What a valid list of records says."""

    def __init__(self, records):
        self._empty = True
        self._finals = []
        self._settled = {}
        self._checkpoint = None
        # A settled vouch is kept, too, because a later vouch of its client must have a greater number.
        self._vouched = {}
        self._votes = []
        self._last_vote = 0
        self._floor = 0
        self._readies = []
        self._ready_epochs = {}
        for record in records:
            self.add(record)

    def finals(self):
        """Return the final blocks."""
        return list(self._finals)

    def votes(self):
        """Return the blocks of the votes."""
        return list(self._votes)

    def readies(self):
        """Return the blocks of the ready messages."""
        return list(self._readies)

    def vouches(self):
        """Return the last vouch of each client whose number is not settled, in ascending order of the client."""
        commands = [self._vouched[client] for client in sorted(self._vouched)]
        return [command for command in commands if command[1] > last_number(self._settled, command[0])]

    def checkpoint(self):
        """Return the height and the text of the last checkpoint, or None."""
        return self._checkpoint

    def last_vote(self):
        """Return the epoch of the last vote."""
        return self._last_vote

    def floor(self):
        """Return the floor."""
        return self._floor

    def fits(self, record):
        """Tell whether the list followed by the record is valid."""
        if not isinstance(record, tuple) or len(record) == 0 or not isinstance(record[0], str):
            return False
        if len(record) == 2:
            return self._pair_fits(record[0], record[1])
        if len(record) == 3:
            return self._triple_fits(record[0], record[1], record[2])
        return False

    def add(self, record):
        """Add a record to the list."""
        if not self.fits(record):
            raise BadRecord()
        self._empty = False
        kind = record[0]
        if kind == "mark":
            self._last_vote = record[1]
            self._floor = record[2]
        elif kind == "state":
            self._checkpoint = record[1:]
        elif kind == "final":
            self._add_final(record[1])
        elif kind == "vouch":
            self._vouched[record[1][0]] = record[1]
        elif kind == "vote":
            self._add_vote(record[1])
        else:
            self._readies.append(record[1])
            self._ready_epochs[record[1][0]] = True

    def _add_final(self, block):
        """Add a final block, and settle the numbers of its commands."""
        self._finals.append(block)
        for client, number, _ in block[3]:
            self._settled[client] = max(number, last_number(self._settled, client))

    def _add_vote(self, block):
        """Add the block of a vote."""
        self._votes.append(block)
        self._last_vote = block[0]
        self._floor = max(self._floor, block[2] - 1)

    def _pair_fits(self, kind, value):
        """Tell whether a record of a block or a command fits."""
        if kind == "vouch":
            return self._vouch_fits(value)
        if kind == "final":
            return is_block(value) and value[2] == len(self._finals) + 1 and value[1] == last_epoch(self._finals)
        if kind == "vote":
            return is_block(value) and value[0] > max(last_epoch(self._finals), self._last_vote)
        if kind == "ready":
            return is_block(value) and value[0] > last_epoch(self._finals) and value[0] not in self._ready_epochs
        return False

    def _vouch_fits(self, command):
        """Tell whether a vouch for the command fits."""
        if not is_command(command):
            return False
        client, number, _ = command
        if client in self._vouched and number <= self._vouched[client][1]:
            return False
        return number > last_number(self._settled, client)

    def _triple_fits(self, kind, first, second):
        """Tell whether a mark or a checkpoint fits."""
        if kind == "mark":
            return self._empty and is_integer(first, 0, MOST_NUMBER) and is_integer(second, 0, MOST_NUMBER)
        if kind == "state":
            least = 0 if self._checkpoint is None else self._checkpoint[0]
            return is_integer(first, least, len(self._finals)) and is_printable(second)
        return False


def last_epoch(finals):
    """Return the epoch of the last final block, or 0."""
    if len(finals) == 0:
        return 0
    return finals[-1][0]


def reduce(records):
    """Return a list of records that says the same in fewer records."""
    memory = Memory(records)
    finals = memory.finals()
    settled = last_epoch(finals)
    votes = memory.votes()
    reduced = reduced_mark(records, [block for block in votes if block[0] <= settled])
    reduced.extend([("final", block) for block in finals])
    checkpoint = memory.checkpoint()
    if checkpoint is not None:
        reduced.append(("state", checkpoint[0], checkpoint[1]))
    reduced.extend([("vote", block) for block in votes if block[0] > settled])
    reduced.extend([("ready", block) for block in memory.readies() if block[0] > settled])
    reduced.extend([("vouch", command) for command in memory.vouches()])
    return reduced


def reduced_mark(records, old_votes):
    """Return a new list with the mark that stands for the old votes and the mark of the records, if there is any."""
    rows = [(block[0], block[2] - 1) for block in old_votes]
    if len(records) > 0 and records[0][0] == "mark":
        rows.append((records[0][1], records[0][2]))
    if len(rows) == 0:
        return []
    return [("mark", max([row[0] for row in rows]), max([row[1] for row in rows]))]
