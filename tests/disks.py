"""Disks that several tests use."""

import copy

from oathledger.disk import Disk
from oathledger.texts import encode


class LoggingDisk(Disk):
    """A disk that remembers its operations."""

    def __init__(self, size):
        Disk.__init__(self, size)
        self.operations = []

    def write(self, index, text):
        Disk.write(self, index, text)
        self.operations.append((index, text))

    def sync(self):
        Disk.sync(self)
        self.operations.append("sync")

    def taken(self):
        """The operations since the last call."""
        operations = self.operations
        self.operations = []
        return operations


def disk_with(size, texts):
    """A logging disk that holds these texts by their sectors, durably."""
    disk = LoggingDisk(size)
    for index, text in texts.items():
        disk.write(index, text)
    disk.sync()
    disk.taken()
    return disk


def record_of(pieces, mark="a"):
    """A record with that many pieces, the last of which is full."""
    text_length = 40 * pieces
    for size in range(text_length):
        record = mark * size
        if len(encode(record)) == text_length:
            return record
    raise AssertionError(pieces)


def log_of(generation, records, first):
    """The sectors of a log of these records."""
    texts = {}
    for record in records:
        text = encode(record)
        payloads = [text[at:at + 40] for at in range(0, len(text), 40)]
        for count, payload in enumerate(payloads):
            place = len(texts)
            left = len(payloads) - 1 - count
            texts[first + place] = f"P {generation} {place} {left} {payload}"
    return texts


def survivors_of(disk):
    """None, all, and each single one of the pending writes."""
    count = len(disk.pending())
    cases = [[], [True] * count]
    cases.extend([[at == place for at in range(count)] for place in range(count)])
    return cases


def crashed_copies(disk):
    """For each choice of survivors, a copy of the disk after the power failure."""
    copies = []
    for survivors in survivors_of(disk):
        other = copy.deepcopy(disk)
        other.crash(survivors)
        copies.append(other)
    return copies
