"""Counting votes and ready messages (points 302 to 304)."""


class Tally:
    """The messages of one kind: the first one of each sender in each epoch."""

    def __init__(self):
        # For each epoch, the blocks by their senders.
        self._blocks = {}

    def add(self, sender, block):
        """Count a message, and tell whether it is the first one of its sender and epoch."""
        blocks = self._blocks.setdefault(block[0], {})
        if sender in blocks:
            return False
        blocks[sender] = block
        return True

    def number(self, block):
        """Return the number of messages that name the block."""
        blocks = self._blocks.get(block[0], {})
        return list(blocks.values()).count(block)

    def epochs(self):
        """Return a list of the epochs with at least one message."""
        return list(self._blocks)

    def forget(self, epoch):
        """Drop all epochs up to this one."""
        self._blocks = later_than(self._blocks, epoch)


class Notary:
    """What the votes and the ready messages of all machines say of the blocks."""

    def __init__(self, group):
        self._group = group
        self._votes = Tally()
        self._readies = Tally()
        # The first block of each epoch that became supported, and the first one that became notarized.
        self._supported = {}
        self._notarized = {}
        self._forgotten = 0

    def add_vote(self, sender, block):
        """Count a vote, and tell whether it counted."""
        if block[0] <= self._forgotten or not self._votes.add(sender, block):
            return False
        self._judge(block)
        return True

    def add_ready(self, sender, block):
        """Count a ready message, and tell whether it counted."""
        if block[0] <= self._forgotten or not self._readies.add(sender, block):
            return False
        self._judge(block)
        return True

    def votes(self, block):
        """Return the number of votes that count for the block."""
        return self._votes.number(block)

    def readies(self, block):
        """Return the number of ready messages that count for the block."""
        return self._readies.number(block)

    def supported(self, epoch):
        """Return the first block of the epoch that became supported, or None."""
        return self._supported.get(epoch)

    def notarized(self, epoch):
        """Return the notarized block of the epoch, or None."""
        return self._notarized.get(epoch)

    def epochs(self):
        """Return the epochs with at least one vote or ready message, in ascending order."""
        return sorted(set(self._votes.epochs() + self._readies.epochs()))

    def forget(self, epoch):
        """Drop all epochs up to this one, for good."""
        self._forgotten = max(self._forgotten, epoch)
        self._votes.forget(epoch)
        self._readies.forget(epoch)
        self._supported = later_than(self._supported, epoch)
        self._notarized = later_than(self._notarized, epoch)

    def _judge(self, block):
        """Remember the block if it is the first one of its epoch with enough votes or ready messages."""
        readies = self.readies(block)
        if self.votes(block) >= self._group.quorum or readies >= self._group.blocking:
            self._supported.setdefault(block[0], block)
        if readies >= self._group.quorum:
            self._notarized.setdefault(block[0], block)


def later_than(table, epoch):
    """Return a new dict without the epochs up to this one."""
    return {key: table[key] for key in table if key > epoch}
