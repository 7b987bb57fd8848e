"""Groups of machines, epochs and their leaders (points 104 to 106)."""

from oathledger.errors import BadGroup
from oathledger.limits import MOST_FAULTS, MOST_NUMBER, SPAN, STINT
from oathledger.texts import is_integer


class Group:
    """The machines that keep one ledger."""

    def __init__(self, faults):
        if not is_integer(faults, 0, MOST_FAULTS):
            raise BadGroup()
        self.faults = faults
        self.machines = 3 * faults + 1
        self.quorum = 2 * faults + 1
        self.blocking = faults + 1

    def members(self):
        """Return the list of the members in ascending order."""
        return list(range(self.machines))

    def is_member(self, value):
        """Tell whether the value is a member of the group."""
        return is_integer(value, 0, self.machines - 1)

    def leader(self, epoch):
        """Return the leader of the epoch, or None for epoch 0."""
        check_number(epoch)
        if epoch == 0:
            return None
        return epoch // STINT % self.machines


def epoch_of(time):
    """Return the epoch of a time."""
    check_number(time)
    return time // SPAN


def first_tick(epoch):
    """Return the first time of an epoch."""
    check_number(epoch)
    return epoch * SPAN


def check_number(value):
    """Raise BadGroup if the value is neither a time nor an epoch."""
    if not is_integer(value, 0, MOST_NUMBER):
        raise BadGroup()
