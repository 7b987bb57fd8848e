"""Notarized blocks that are connected with a root (points 305 to 308)."""

from oathledger.errors import BadBlock


class Chain:
    """The connected blocks from the root on, and the blocks that wait for their parents."""

    def __init__(self, root):
        self.root = root
        # The blocks by their epochs.
        self._connected = {root[0]: root}
        self._waiting = {}

    def insert(self, block):
        """Insert a notarized block, and return the blocks that this connects."""
        epoch = block[0]
        if epoch in self._connected or epoch in self._waiting:
            return []
        if epoch <= self.root[0] or block[2] <= self.root[2]:
            return []
        self._waiting[epoch] = block
        return self._connect_waiting()

    def connected(self, epoch):
        """Return the connected block of the epoch, or None."""
        return self._connected.get(epoch)

    def tip(self):
        """Return the connected block of the greatest height, and of the greatest epoch among equal heights."""
        return highest(list(self._connected.values()))

    def path(self, epoch):
        """Return the connected blocks from the child of the root to the block of the epoch."""
        if epoch not in self._connected:
            raise BadBlock()
        blocks = []
        while epoch != self.root[0]:
            block = self._connected[epoch]
            blocks.append(block)
            epoch = block[1]
        return blocks[::-1]

    def final(self):
        """Return the final block of the greatest height above the root, or None."""
        middles = [block for block in list(self._connected.values()) if self._is_middle(block)]
        if len(middles) == 0:
            return None
        # The other final blocks are ancestors of these, so they are lower.
        return highest(middles)

    def settle(self, block):
        """Make the block the root, whether it is connected or not."""
        if block[2] <= self.root[2]:
            raise BadBlock()
        # A parent has a smaller epoch than its child, so one pass in ascending order reaches every descendant.
        kept = {block[0]: block}
        for epoch in sorted(self._connected):
            if has_parent(kept, self._connected[epoch]):
                kept[epoch] = self._connected[epoch]
        waiting = list(self._waiting.values())
        self.root = block
        self._connected = kept
        self._waiting = {other[0]: other for other in waiting if other[0] > block[0] and other[2] > block[2]}
        self._connect_waiting()

    def _connect_waiting(self):
        """Connect the waiting blocks whose parents are connected, drop those that do not fit, return the connected."""
        reached = []
        epochs = sorted(self._waiting)
        for epoch in epochs:
            block = self._waiting[epoch]
            if block[1] in self._connected:
                del self._waiting[epoch]
                if has_parent(self._connected, block):
                    self._connected[epoch] = block
                    reached.append(block)
        return sorted(reached, key=place)

    def _is_middle(self, block):
        """Tell whether the block has a connected parent of the epoch before it and a connected child of the next."""
        before = self._connected.get(block[0] - 1)
        after = self._connected.get(block[0] + 1)
        return before is not None and after is not None and block[1] == before[0] and after[1] == block[0]


def has_parent(connected, block):
    """Tell whether the parent of the block is connected and the heights fit."""
    parent = connected.get(block[1])
    return parent is not None and block[2] == parent[2] + 1


def place(block):
    """Return what blocks are ordered by: their heights, then their epochs."""
    return block[2], block[0]


def highest(blocks):
    """Return the block of the greatest height, and of the greatest epoch among equal heights."""
    return max(blocks, key=place)
