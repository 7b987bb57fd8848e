"""The votes of one machine, and what it may vote for (points 309 and 310)."""

from oathledger.errors import BadBlock
from oathledger.requests import all_fresh, numbers_after


class Ballot:
    """The votes of one machine: at most one in an epoch, and never one for an earlier epoch."""

    def __init__(self, blocks):
        self._blocks = []
        self._last = 0
        self._floor = 0
        for block in blocks:
            self.record(block)

    def last(self):
        """Return the epoch of the last vote, or 0."""
        return self._last

    def floor(self):
        """Return the least height of a parent to vote for."""
        return self._floor

    def restore(self, epoch, floor):
        """Raise the epoch of the last vote and the floor to at least these numbers."""
        self._last = max(self._last, epoch)
        self._floor = max(self._floor, floor)

    def record(self, block):
        """Record a vote."""
        if block[0] <= self._last:
            raise BadBlock()
        self._blocks.append(block)
        self.restore(block[0], block[2] - 1)

    def blocks(self):
        """Return a new list of the recorded blocks."""
        return list(self._blocks)


def numbers_along(numbers, path):
    """Return a new dict of the last numbers after the blocks of the path."""
    reached = dict(numbers)
    for block in path:
        reached = numbers_after(reached, block[3])
    return reached


def may_vote(block, epoch, chain, ballot, known, numbers):
    """Tell whether a machine may vote for the block in the epoch."""
    if block[0] != epoch or epoch <= ballot.last():
        return False
    parent = chain.connected(block[1])
    if parent is None or block[2] != parent[2] + 1:
        return False
    if parent[2] < max(chain.tip()[2], ballot.floor()):
        return False
    return all_known(known, block[3]) and all_fresh(numbers_along(numbers, chain.path(block[1])), block[3])


def all_known(known, commands):
    """Tell whether all the commands are among the known ones."""
    table = {command: True for command in known}
    return all([command in table for command in commands])
