"""Blocks that other machines give as final (points 506 and 507)."""

from oathledger.blocks import follows


class Catchup:
    """For each height above the ledger, the first block that each machine gave."""

    def __init__(self, group):
        self._group = group
        # For each height, the blocks by their senders.
        self._gives = {}

    def add(self, sender, block, height):
        """Count a give, where the last final block has the height; tell whether it counted."""
        if block[2] <= height:
            return False
        blocks = self._gives.setdefault(block[2], {})
        if sender in blocks:
            return False
        blocks[sender] = block
        return True

    def due(self, last):
        """Return the next block on top of the last final block, or None."""
        counts = {}
        for block in self._gives.get(last[2] + 1, {}).values():
            counts[block] = counts.get(block, 0) + 1
        fitting = [block for block in counts if counts[block] >= self._group.blocking and follows(block, last)]
        return min(fitting, default=None)

    def forget(self, height):
        """Drop the gives for heights up to this one."""
        self._gives = {key: self._gives[key] for key in self._gives if key > height}
