"""Machines that several tests use."""

import copy

from oathledger.groups import Group
from oathledger.logbook import Logbook
from oathledger.machine import Machine
from tests.disks import LoggingDisk


def start(me=3, faults=1, size=1000, time=None):
    """A disk and a new machine on it, which is told the time if there is one."""
    disk = LoggingDisk(size)
    machine = Machine(Group(faults), me, disk)
    if time is not None:
        machine.tick(time)
    disk.taken()
    return disk, machine


def others(me, *letters, faults=1):
    """The letters to every other machine, one after the other."""
    return [(receiver, letter) for letter in letters for receiver in range(3 * faults + 1) if receiver != me]


def records_on(disk):
    """The records that a new logbook would find on the disk."""
    return Logbook(copy.deepcopy(disk)).records()


def notarize(machine, block, senders=(0, 1)):
    """Let a machine of a group of four receive ready messages for the block; return what it sends."""
    sent = []
    for sender in senders:
        sent.extend(machine.receive(sender, ("ready", block)))
    return sent


def give(machine, block, senders=(0, 1)):
    """Let a machine receive the block as final; return what it sends."""
    sent = []
    for sender in senders:
        sent.extend(machine.receive(sender, ("give", block[2], block)))
    return sent
