"""Points 651 to 653: events and histories."""

import random
import unittest

from oathledger.blocks import GENESIS
from oathledger.errors import BadSchedule
from oathledger.history import History, is_event
from tests.objects import inside
from tests.values import PERCENT, STRANGE, block, with_part

MOST = 10 ** 12
EVENTS = [
    ("call", 3, -2, 1, "open ann"), ("accept", 3, -2, 1, "ok"), ("final", 3, 0, block(2)), ("crash", 3, 2),
]
A, B, C = block(2), block(3, 2, 2), block(5, 3, 3)


def history_with(*events):
    history = History()
    for event in events:
        history.add(event)
    return history


def told(history):
    return (history.events(), history.calls(), history.accepted(), history.open_calls(), history.machines(),
            [history.ledger(machine) for machine in range(31)])


class IsEventTest(unittest.TestCase):
    def test_each_kind(self):
        for event in EVENTS:
            self.assertIs(is_event(event), True)

    def test_values_that_are_no_tuples(self):
        for value in STRANGE + ["call", 5, ""] + [list(event) for event in EVENTS]:
            self.assertIs(is_event(value), False)

    def test_kinds(self):
        for event in EVENTS:
            for kind in STRANGE + ["", "calls", "Call", 5, ("call",)]:
                self.assertIs(is_event(with_part(event, 0, kind)), False)

    def test_items_too_many_or_too_few(self):
        for event in EVENTS:
            for extra in (1, None, "", "ok", A):
                self.assertIs(is_event(event + (extra,)), False)
            for count in range(len(event)):
                self.assertIs(is_event(event[:count]), False)

    def test_times(self):
        for event in EVENTS:
            for good in (0, 1, MOST):
                self.assertIs(is_event(with_part(event, 1, good)), True)
            for bad in [-1, MOST + 1, "3"] + STRANGE:
                self.assertIs(is_event(with_part(event, 1, bad)), False)

    def test_clients_and_numbers(self):
        for event in EVENTS[:2]:
            for good in (-1, -100):
                self.assertIs(is_event(with_part(event, 2, good)), True)
            for bad in [0, 1, -101, "-1"] + STRANGE:
                self.assertIs(is_event(with_part(event, 2, bad)), False)
            for good in (1, MOST):
                self.assertIs(is_event(with_part(event, 3, good)), True)
            for bad in [0, -1, MOST + 1, "1"] + STRANGE:
                self.assertIs(is_event(with_part(event, 3, bad)), False)

    def test_texts(self):
        for event, most in ((EVENTS[0], 240), (EVENTS[1], 200)):
            for good in ("", " ", "x" * most, "~", "no command"):
                self.assertIs(is_event(with_part(event, 4, good)), True)
            for bad in ["x" * (most + 1), "\n", PERCENT, "\x7f", "\u00e9", 5, A] + STRANGE:
                self.assertIs(is_event(with_part(event, 4, bad)), False)

    def test_machines(self):
        for event in EVENTS[2:]:
            for good in (0, 30):
                self.assertIs(is_event(with_part(event, 2, good)), True)
            for bad in [-1, 31, "0"] + STRANGE:
                self.assertIs(is_event(with_part(event, 2, bad)), False)

    def test_blocks(self):
        self.assertIs(is_event(("final", 0, 0, block(9, 8, 9, ((-1, 1, "a"),)))), True)
        for bad in [GENESIS, list(A), (2, 0, 2, ()), A[:3], (2, 2, 1, ()), 5] + STRANGE:
            self.assertIs(is_event(("final", 0, 0, bad)), False)


class AddTest(unittest.TestCase):
    def assert_refused(self, history, event, reason):
        before, tells = inside(history), told(history)
        with self.assertRaises(BadSchedule) as caught:
            history.add(event)
        self.assertEqual((caught.exception.line, caught.exception.reason), (0, reason))
        self.assertEqual((inside(history), told(history)), (before, tells))

    def test_empty(self):
        self.assertEqual(told(History()), ([], [], [], [], [], [[]] * 31))

    def test_values_that_are_no_events(self):
        for history in (History(), history_with(*EVENTS[:1])):
            for value in STRANGE + [(), ("call",), ("crash", 3), ("crash", 3, 31), ["crash", 3, 1], ("final", 3, 0, GENESIS)]:
                self.assert_refused(history, value, "event")

    def test_times(self):
        history = history_with(("crash", 3, 0), ("crash", 3, 0), ("crash", 5, 0))
        for event in EVENTS:
            self.assert_refused(history, with_part(event, 1, 4), "time")
        self.assert_refused(history, ("crash", 0, 9), "time")
        history.add(("crash", 5, 1))
        history.add(("crash", MOST, 1))
        self.assert_refused(history, ("crash", MOST - 1, 1), "time")

    def test_the_first_event_may_have_any_time(self):
        for time in (0, 7, MOST):
            self.assertEqual(history_with(("crash", time, 1)).events(), [("crash", time, 1)])

    def test_the_first_call_of_a_client(self):
        history = History()
        for number in (2, 3, MOST):
            self.assert_refused(history, ("call", 0, -1, number, "a"), "call")
        self.assertIsNone(history.add(("call", 0, -1, 1, "a")))

    def test_calls_while_one_is_open(self):
        history = history_with(("call", 0, -1, 1, "a"))
        for number in (1, 2, 3):
            self.assert_refused(history, ("call", 0, -1, number, "a"), "call")
        history.add(("call", 0, -2, 1, "a"))

    def test_calls_behind_an_accept(self):
        history = history_with(("call", 0, -1, 1, "a"), ("accept", 0, -1, 1, "ok"))
        for number in (1, 3):
            self.assert_refused(history, ("call", 0, -1, number, "a"), "call")
        history.add(("call", 0, -1, 2, "a"))
        for number in (1, 2, 3):
            self.assert_refused(history, ("call", 0, -1, number, "a"), "call")

    def test_accepts(self):
        history = History()
        self.assert_refused(history, ("accept", 0, -1, 1, "ok"), "accept")
        history.add(("call", 0, -1, 1, "a"))
        for client, number in ((-2, 1), (-1, 2), (-1, 3)):
            self.assert_refused(history, ("accept", 0, client, number, "ok"), "accept")
        history.add(("accept", 0, -1, 1, "ok"))
        for number in (1, 2):
            self.assert_refused(history, ("accept", 0, -1, number, "ok"), "accept")
        history.add(("call", 0, -1, 2, "a"))
        self.assert_refused(history, ("accept", 0, -1, 1, "ok"), "accept")
        history.add(("accept", 0, -1, 2, "ok"))

    def test_finals(self):
        history = History()
        self.assert_refused(history, ("final", 0, 1, B), "final")
        history.add(("final", 0, 1, A))
        for event in (("final", 0, 1, A), ("final", 0, 1, C), ("final", 0, 2, B)):
            self.assert_refused(history, event, "final")
        history.add(("final", 0, 1, B))
        history.add(("final", 0, 2, A))
        self.assert_refused(history, ("final", 0, 1, B), "final")
        self.assertEqual((history.ledger(1), history.ledger(2), history.ledger(0)), ([A, B], [A], []))

    def test_only_the_heights_of_finals_count(self):
        other = block(9, 8, 2)
        self.assertEqual(history_with(("final", 0, 1, A), ("final", 0, 1, other)).ledger(1), [A, other])

    def test_finals_behind_a_crash(self):
        history = history_with(("final", 0, 1, A), ("final", 0, 1, B), ("final", 0, 2, A), ("crash", 0, 1))
        self.assertEqual((history.ledger(1), history.ledger(2)), ([], [A]))
        for each in (B, C):
            self.assert_refused(history, ("final", 0, 1, each), "final")
        self.assert_refused(history, ("final", 0, 2, A), "final")
        history.add(("final", 0, 1, block(3)))
        self.assertEqual(history.ledger(1), [block(3)])

    def test_which_reason_decides(self):
        history = history_with(("crash", 5, 0))
        self.assert_refused(history, ("call", 4, -1, 0, "a"), "event")
        self.assert_refused(history, ("call", 4, -1, 2, "a"), "time")
        self.assert_refused(history, ("accept", 4, -1, 1, "a"), "time")
        self.assert_refused(history, ("final", 4, 0, B), "time")
        self.assert_refused(history, ("final", 4, 31, B), "event")

    def test_machines_with_a_final_that_was_refused(self):
        history = History()
        self.assert_refused(history, ("final", 0, 4, B), "final")
        self.assertEqual(history.machines(), [])


class TellTest(unittest.TestCase):
    def test_a_whole_history(self):
        events = [
            ("call", 0, -2, 1, "a"), ("call", 0, -7, 1, "b"), ("final", 1, 3, A), ("accept", 2, -7, 1, "x"), ("crash", 2, 0),
            ("call", 2, -7, 2, "c"), ("accept", 3, -2, 1, "y"), ("final", 3, 1, A), ("call", 4, -1, 1, "d"), ("final", 4, 3, B),
            ("crash", 5, 1),
        ]
        history = history_with(*events[:6])
        self.assertEqual(history.calls(), [(-2, 1, "a"), (-7, 1, "b"), (-7, 2, "c")])
        self.assertEqual((history.accepted(), history.machines()), ([(-7, 1, "x")], [0, 3]))
        self.assertEqual(history.open_calls(), [(-7, 2, "c"), (-2, 1, "a")])
        for event in events[6:]:
            history.add(event)
        self.assertEqual(history.events(), events)
        self.assertEqual(history.calls(), [(-2, 1, "a"), (-7, 1, "b"), (-7, 2, "c"), (-1, 1, "d")])
        self.assertEqual(history.accepted(), [(-7, 1, "x"), (-2, 1, "y")])
        self.assertEqual(history.open_calls(), [(-7, 2, "c"), (-1, 1, "d")])
        self.assertEqual(history.machines(), [0, 1, 3])
        self.assertEqual([history.ledger(machine) for machine in range(5)], [[], [], [], [A, B], []])

    def test_lists_may_be_changed_by_their_caller(self):
        history = history_with(("call", 0, -2, 1, "a"), ("accept", 0, -2, 1, "x"), ("call", 0, -2, 2, "a"), ("final", 1, 3, A))
        before = told(history)
        lists = [history.events(), history.calls(), history.accepted(), history.open_calls(), history.machines(),
                 history.ledger(3), history.ledger(0)]
        for each in lists:
            each.append(1)
            each.reverse()
        self.assertEqual(told(history), before)
        history.add(("final", 1, 3, B))
        self.assertEqual(history.ledger(3), [A, B])

    def test_random_events_against_plain_lists(self):
        rng = random.Random(6)
        counts = {"event": 0, "time": 0, "call": 0, "accept": 0, "final": 0, None: 0}
        for _ in range(120):
            history, events = History(), []
            for _ in range(40):
                time = (events[-1][1] if events else 0) + rng.choice([0, 0, 0, 1, 1, -1])
                client, number = rng.choice([-1, -2]), rng.choice([1, 1, 2, 2, 3, 4])
                event = rng.choice([
                    ("call", time, client, number, "a"), ("accept", time, client, number, "x"), ("crash", time, rng.randrange(2)),
                    ("final", time, rng.randrange(2), rng.choice([A, B, C])), ("final", time, 31, A),
                ])
                reason = reason_for(events, event)
                counts[reason] += 1
                if reason is None:
                    history.add(event)
                    events.append(event)
                else:
                    with self.assertRaises(BadSchedule) as caught:
                        history.add(event)
                    self.assertEqual(caught.exception.reason, reason)
                self.assertEqual(history.events(), events)
                calls = [each[2:] for each in events if each[0] == "call"]
                accepted = [each[2:] for each in events if each[0] == "accept"]
                self.assertEqual((history.calls(), history.accepted()), (calls, accepted))
                done = [each[:2] for each in accepted]
                self.assertEqual(history.open_calls(), sorted([each for each in calls if each[:2] not in done]))
        self.assertGreater(min(counts.values()), 100, counts)


def reason_for(events, event):
    """Why an event cannot be added, as point 652 tells it."""
    kind, time = event[:2]
    if time < 0 or (kind == "final" and event[2] == 31):
        return "event"
    if events and time < events[-1][1]:
        return "time"
    own = [each for each in events if each[2] == event[2]]
    if kind == "call":
        last = [each for each in own if each[0] in ("call", "accept")]
        if last and last[-1][0] == "call":
            return "call"
        return None if event[3] == len([each for each in last if each[0] == "call"]) + 1 else "call"
    if kind == "accept":
        last = [each for each in own if each[0] in ("call", "accept")]
        return None if last and last[-1][0] == "call" and last[-1][3] == event[3] else "accept"
    if kind == "final":
        blocks = []
        for each in own:
            if each[0] == "crash":
                blocks = []
            elif each[0] == "final":
                blocks.append(each)
        return None if event[3][2] == len(blocks) + 1 else "final"
    return None


if __name__ == "__main__":
    unittest.main()
