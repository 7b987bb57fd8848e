"""The errors that the program raises (point 102)."""


class LedgerError(ValueError):
    """The base of all errors of the program."""


class BadText(LedgerError):
    """A value has no canonical text, or a text is not the text that was asked for."""


class BadBlock(LedgerError):
    """A value is not a block, or a block does not fit."""


class BadLetter(LedgerError):
    """A value is not a letter, or it cannot go from its sender to its receiver."""


class BadGroup(LedgerError):
    """There is no such group, epoch or time."""


class DiskError(LedgerError):
    """There is no such sector, or a text does not fit into one."""


class DiskCrashed(LedgerError):
    """The disk has crashed."""


class JournalError(LedgerError):
    """The disk is too small for a journal."""


class JournalFull(LedgerError):
    """The journal has no room for a record."""


class BadRecord(LedgerError):
    """A record does not fit to the records before it."""


class Refused(LedgerError):
    """The service refuses an operation."""

    def __init__(self, reason):
        self.reason = reason


class BadCommand(LedgerError):
    """A text is not a command text."""

    def __init__(self, reason, statement):
        self.reason = reason
        self.statement = statement


class BadSchedule(LedgerError):
    """A schedule, an act or an event is not possible; the line 0 means none."""

    def __init__(self, line, reason):
        self.line = line
        self.reason = reason
