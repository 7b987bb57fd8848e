"""Point 102: the errors."""

import unittest

from oathledger import errors
from oathledger.errors import (
    BadBlock, BadCommand, BadGroup, BadLetter, BadRecord, BadSchedule, BadText, DiskCrashed, DiskError,
    JournalError, JournalFull, LedgerError, Refused,
)

MAKERS = {
    BadText: BadText,
    BadBlock: BadBlock,
    BadLetter: BadLetter,
    BadGroup: BadGroup,
    DiskError: DiskError,
    DiskCrashed: DiskCrashed,
    JournalError: JournalError,
    JournalFull: JournalFull,
    BadRecord: BadRecord,
    Refused: lambda: Refused("owner"),
    BadCommand: lambda: BadCommand("verb", 3),
    BadSchedule: lambda: BadSchedule(7, "number"),
}


class ErrorsTest(unittest.TestCase):
    def test_there_are_twelve(self):
        self.assertEqual(len(MAKERS), 12)

    def test_base(self):
        self.assertEqual(LedgerError.__bases__, (ValueError,))
        with self.assertRaises(ValueError):
            raise LedgerError()

    def test_direct_subclasses(self):
        for kind in MAKERS:
            with self.subTest(kind.__name__):
                self.assertEqual(kind.__bases__, (LedgerError,))

    def test_raised_and_caught(self):
        for kind, make in MAKERS.items():
            for caught in (kind, LedgerError, ValueError):
                with self.subTest(kind=kind.__name__, caught=caught.__name__):
                    with self.assertRaises(caught) as context:
                        raise make()
                    self.assertIs(context.exception.__class__, kind)

    def test_instance_of_none_of_the_other_eleven(self):
        for kind, make in MAKERS.items():
            others = [other for other in MAKERS if other is not kind]
            self.assertEqual(len(others), 11)
            for other in others:
                with self.subTest(kind=kind.__name__, other=other.__name__):
                    self.assertNotIsInstance(make(), other)

    def test_attributes(self):
        for reason in ("", "funds"):
            self.assertEqual(Refused(reason).reason, reason)
            for number in (0, 1, 12):
                error = BadCommand(reason, number)
                self.assertEqual((error.reason, error.statement), (reason, number))
                error = BadSchedule(number, reason)
                self.assertEqual((error.line, error.reason), (number, reason))

    def test_attributes_of_several_errors_side_by_side(self):
        first, second = BadSchedule(1, "act"), BadSchedule(2, "text")
        self.assertEqual((first.line, first.reason), (1, "act"))
        self.assertEqual((second.line, second.reason), (2, "text"))

    def test_by_keyword(self):
        self.assertEqual(Refused(reason="need").reason, "need")
        self.assertEqual(BadCommand(statement=2, reason="key").statement, 2)
        self.assertEqual(BadSchedule(reason="key", line=4).line, 4)

    def test_no_other_errors(self):
        named = [value for value in vars(errors).values() if isinstance(value, type)]
        self.assertEqual(set(named), set(MAKERS) | {LedgerError})


if __name__ == "__main__":
    unittest.main()
