"""The network: the packets in flight (point 605)."""

from oathledger.errors import BadSchedule
from oathledger.texts import is_integer


class Net:
    """A list of packets, each of them a sender, a receiver and a letter."""

    def __init__(self):
        self._packets = []

    def send(self, sender, receiver, letter):
        """Append a packet."""
        self._packets.append((sender, receiver, letter))

    def take(self, position):
        """Remove the packet at the position, and return it."""
        self._check(position)
        return self._packets.pop(position)

    def double(self, position):
        """Append a second copy of the packet at the position."""
        self._check(position)
        self._packets.append(self._packets[position])

    def move(self, position):
        """Move the packet at the position to the end."""
        packet = self.take(position)
        self._packets.append(packet)

    def packets(self):
        """Return a new list of the packets."""
        return list(self._packets)

    def count(self):
        """Return the number of packets."""
        return len(self._packets)

    def _check(self, position):
        """Raise BadSchedule if there is no packet at the position."""
        if not is_integer(position, 0, len(self._packets) - 1):
            raise BadSchedule(0, "position")
