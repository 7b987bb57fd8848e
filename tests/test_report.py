"""Points 665 to 669: histories as text, and the summary."""

import random
import unittest

from oathledger.blocks import GENESIS
from oathledger.errors import BadSchedule
from oathledger.history import History, is_event
from oathledger.report import event_line, event_of, history_of, history_text, ledger_lines, summary
from oathledger.texts import encode
from tests.test_judge import ANN, BOB, GET, LEDGER, PAY, A, B, accept, call, good_history
from tests.values import PERCENT, STRANGE, block

MOST = 10 ** 12
ROWS = [
    (("call", 3, -2, 1, "open ann"), "3 call -2 1 open ann"),
    (("call", 0, -100, MOST, ""), "0 call -100 1000000000000 "),
    (("call", MOST, -1, 7, " "), "1000000000000 call -1 7  "),
    (("call", 5, -1, 7, "  a  b "), "5 call -1 7   a  b "),
    (("call", 5, -1, 7, "-1 7"), "5 call -1 7 -1 7"),
    (("accept", 4, -2, 1, "ok"), "4 accept -2 1 ok"),
    (("accept", 4, -2, 1, ""), "4 accept -2 1 "),
    (("accept", 10, -10, 10, " ok;ok "), "10 accept -10 10  ok;ok "),
    (("final", 0, 0, (2, 0, 1, ())), "0 final 0 t4:i2;i0;i1;t0:"),
    (("final", 17, 30, (3, 2, 2, ((-1, 1, "a b"),))), "17 final 30 t4:i3;i2;i2;t1:t3:i-1;i1;s3:a b"),
    (("crash", 9, 30), "9 crash 30"),
    (("crash", 0, 0), "0 crash 0"),
]


class EventLineTest(unittest.TestCase):
    def test_each_line(self):
        for event, line in ROWS:
            self.assertEqual(event_line(event), line)
            self.assertEqual(event_of(line), event)

    def test_values_that_are_no_events(self):
        values = STRANGE + [(), "3 crash 1", ["crash", 3, 1], ("crash", 3), ("crash", 3, 31), ("final", 3, 1, GENESIS),
                            ("call", 3, -1, 0, "a"), ("call", 3, -1, 1, "\n"), ("accept", 3, -1, 1, "x" * 201)]
        for value in values:
            with self.assertRaises(BadSchedule) as caught:
                event_line(value)
            self.assertEqual((caught.exception.line, caught.exception.reason), (0, "event"))

    def test_the_longest_texts(self):
        for event in (("call", 1, -1, 1, "x" * 240), ("accept", 1, -1, 1, "y" * 200)):
            self.assertEqual(event_of(event_line(event)), event)


class EventOfTest(unittest.TestCase):
    def assert_refused(self, line):
        with self.assertRaises(BadSchedule) as caught:
            event_of(line)
        self.assertEqual((caught.exception.line, caught.exception.reason), (0, "line"), line)

    def test_lines_that_are_none(self):
        lines = [
            "", " ", "3", "3 call", "3 crash", "3 crash ", "crash 3 1", "3 crash  1", " 3 crash 1", "3  crash 1", "3 crash 1 ",
            "3 crash 1 2", "3 crash 31", "3 crash -1", "-1 crash 1", "03 crash 1", "3 crash 01", "3 crash -0", "-0 crash 1",
            "+3 crash 1", "3 crash +1", "1000000000001 crash 1", "10000000000000 crash 1", "3.0 crash 1", "3 Crash 1", "3 crashes 1",
            "3 call -2 1", "3 call -2", "3 call -2 0 a", "3 call 2 1 a", "3 call 0 1 a", "3 call -0 1 a", "3 call -101 1 a",
            "3 call -02 1 a", "3 call --2 1 a", "3 call -2 -1 a", "3 call -2 01 a", "3 call -2 1000000000001 a", "3 call -2  1 a",
            "3 call -2 1 " + "x" * 241, "3 call -2 1 a\tb", "3 call -2 1 " + PERCENT, "3 call -2 1 a\n", "3\tcall -2 1 a",
            "4 accept -2 1", "4 accept -2 1 " + "x" * 201, "4 accept 2 1 ok", "4 accept -2 0 ok", "4 accepts -2 1 ok",
            "0 final 0", "0 final 0 ", "0 final 0 t4:i2;i0;i1;t0: ", "0 final 0  t4:i2;i0;i1;t0:", "0 final 0 t4:i0;i0;i0;t0:",
            "0 final 0 t4:i2;i0;i2;t0:", "0 final 0 t4:i2;i0;i1;t0", "0 final 0 n", "0 final 0 x", "0 final 31 t4:i2;i0;i1;t0:",
            "0 final 0 t3:i2;i0;i1;", "0 final -1 t4:i2;i0;i1;t0:", "0 final 0 t4:y2;i0;i1;t0:", "0 final 0 (2, 0, 1, ())",
            "9" * 5000 + " crash 1", "3 call -" + "9" * 5000 + " 1 a", "3 call -1 " + "9" * 5000 + " a", "\u0663 crash 1", "3 crash \u0661",
            "None crash 1", "3 crash None", "3 tick 1", "3 world 1",
        ]
        for line in lines:
            self.assert_refused(line)

    def test_lines_with_a_character_put_in_taken_out_or_replaced(self):
        rng = random.Random(7)
        counts = {True: 0, False: 0}
        characters = " -0123;:,abt\n\t" + PERCENT + "~i\u00e9"
        for event, line in ROWS:
            changed = [line[:at] + line[at + 1:] for at in range(len(line))]
            for at in range(len(line) + 1):
                for character in rng.sample(characters, 9):
                    changed.append(line[:at] + character + line[at:])
                    changed.append(line[:at] + character + line[at + 1:])
            for other in changed:
                try:
                    found = event_of(other)
                except BadSchedule as error:
                    self.assertEqual((error.line, error.reason), (0, "line"))
                    counts[False] += 1
                    continue
                self.assertTrue(is_event(found))
                self.assertEqual(event_line(found), other)
                counts[True] += 1
        self.assertGreater(min(counts.values()), 300, counts)


class HistoryTextTest(unittest.TestCase):
    def assert_refused(self, text, line, reason):
        with self.assertRaises(BadSchedule) as caught:
            history_of(text)
        self.assertEqual((caught.exception.line, caught.exception.reason), (line, reason), text)

    def test_the_empty_history(self):
        self.assertEqual(history_text(History()), "")
        self.assertEqual(history_of("").events(), [])

    def test_there_and_back(self):
        history = good_history()
        text = history_text(history)
        self.assertEqual(text, "".join([event_line(event) + "\n" for event in history.events()]))
        again = history_of(text)
        self.assertIsInstance(again, History)
        self.assertEqual(again.events(), history.events())
        self.assertEqual((again.calls(), again.ledger(0)), (history.calls(), history.ledger(0)))

    def test_an_empty_text_at_the_end(self):
        history = History()
        history.add(("call", 0, -1, 1, ""))
        self.assertEqual(history_text(history), "0 call -1 1 \n")
        self.assertEqual(history_of("0 call -1 1 \n").events(), history.events())

    def test_the_last_newline(self):
        self.assert_refused("0 crash 1", 1, "newline")
        self.assert_refused("0 crash 1\n0 crash 2", 2, "newline")
        self.assert_refused("0 crash 1\n\n\nx", 4, "newline")
        self.assert_refused("x", 1, "newline")
        self.assert_refused("x\ny", 2, "newline")

    def test_lines_that_are_none(self):
        self.assert_refused("\n", 1, "line")
        self.assert_refused("0 crash 1\n\n", 2, "line")
        self.assert_refused("0 crash 1\n\n0 crash 1\n", 2, "line")
        self.assert_refused("0 crash 1\n0 crash 1\n0 crash 31\n", 3, "line")
        self.assert_refused("0 crash 1\r\n", 1, "line")

    def test_events_that_do_not_fit(self):
        self.assert_refused("5 crash 1\n4 crash 1\n", 2, "time")
        self.assert_refused("0 call -1 2 a\n", 1, "call")
        self.assert_refused("0 call -1 1 a\n0 call -1 1 a\n", 2, "call")
        self.assert_refused("0 crash 1\n0 call -1 1 a\n0 accept -1 2 a\n", 3, "accept")
        self.assert_refused("0 final 1 t4:i3;i2;i2;t0:\n", 1, "final")

    def test_the_first_line_decides(self):
        self.assert_refused("5 crash 1\n4 crash 1\nx\n", 2, "time")
        self.assert_refused("5 crash 1\nx\n4 crash 1\n", 2, "line")
        self.assert_refused("5 crash 1\n4 call -1 2 a\n", 2, "time")


class LedgerLinesTest(unittest.TestCase):
    def test_lines(self):
        self.assertEqual(ledger_lines([]), [])
        self.assertEqual(ledger_lines(LEDGER), ["1 1 -2 1 ok", "1 1 -1 1 ok;ok", "2 2 empty", "3 4 -1 2 ok", "4 5 -2 2 30"])
        self.assertEqual(ledger_lines([block(7)]), ["1 7 empty"])

    def test_answers_are_those_of_the_order(self):
        ledger = [block(1, 0, 1, (PAY,)), block(2, 1, 2, (BOB, ANN)), block(3, 2, 3, (GET, (-1, 2, "x")))]
        self.assertEqual(ledger_lines(ledger), ["1 1 -1 2 refused 0 missing", "2 2 -2 1 ok", "2 2 -1 1 stale", "3 3 -2 2 0",
                                                "3 3 -1 2 refused 0 missing"])


class SummaryTest(unittest.TestCase):
    def test_nothing(self):
        self.assertEqual(summary(History(), []), ["calls 0", "accepted 0", "open 0", "sound"])

    def test_without_faults(self):
        found = summary(good_history(), [LEDGER[:1], LEDGER, []])
        self.assertEqual(found, ["calls 4", "accepted 4", "open 0", "ledger 0 1", "ledger 1 4", "ledger 2 0", "sound"])

    def test_open_calls(self):
        history = History()
        for event in (call(ANN), call(BOB), accept(-1, 1, "ok;ok"), call(PAY)):
            history.add(event)
        self.assertEqual(summary(history, [[A]])[:3], ["calls 3", "accepted 1", "open 2"])

    def test_faults(self):
        found = summary(good_history(), [])
        self.assertEqual(found, ["calls 4", "accepted 4", "open 0", "fault t3:s7:missingi-1;i1;", "fault t3:s4:losti0;i1;"])
        found = summary(History(), [[B], [block(9)]])
        self.assertEqual(found, ["calls 0", "accepted 0", "open 0", "ledger 0 1", "ledger 1 1",
                                 "fault " + encode(("agreement", 0, 1, 1)), "fault t2:s5:chaini2;"])


if __name__ == "__main__":
    unittest.main()
