"""Points 659 and 662 to 664: linear orders of histories."""

import itertools
import random
import unittest

from oathledger.errors import BadSchedule
from oathledger.executor import State, execute
from oathledger.history import History
from oathledger.judge import judge, ledger_commands
from oathledger.linear import find_linear, is_linear, precedes
from tests.values import block

PUT1, PUT2 = (-1, 1, "put k a"), (-2, 1, "put k b")
GET1, GET2 = (-1, 2, "get k"), (-2, 2, "get k")


def history_of(*rows):
    """A history of commands that are called and pairs of a client and an answer that are accepted, in this order."""
    history = History()
    numbers = {}
    for row in rows:
        if len(row) == 3:
            numbers[row[0]] = row[1]
            history.add(("call", 0) + row)
        else:
            history.add(("accept", 0, row[0], numbers[row[0]], row[1]))
    return history


def answers_of(order):
    """The answers of executing the commands in order."""
    state = State()
    return [execute(state, command) for command in order]


class PrecedesTest(unittest.TestCase):
    def test_accept_and_call(self):
        history = history_of(PUT1, PUT2, (-1, "ok"), GET1, (-2, "refused 0 owner"), GET2)
        expected = {(PUT1, GET1), (PUT1, GET2), (PUT2, GET2)}
        for first, second in itertools.product([PUT1, PUT2, GET1, GET2], repeat=2):
            self.assertIs(precedes(history, first, second), (first, second) in expected)

    def test_a_command_that_was_not_accepted(self):
        history = history_of(PUT1, PUT2)
        self.assertIs(precedes(history, PUT1, PUT2), False)
        self.assertIs(precedes(history, PUT2, PUT1), False)

    def test_an_accept_right_ahead_of_the_call(self):
        history = history_of(PUT1, (-1, "ok"), PUT2)
        self.assertIs(precedes(history, PUT1, PUT2), True)
        self.assertIs(precedes(history, PUT2, PUT1), False)
        self.assertIs(precedes(history, PUT1, PUT1), False)


    def test_events_of_machines_do_not_matter(self):
        history = History()
        for event in (("final", 0, 1, block(1)), ("call", 0) + PUT1, ("crash", 0, 1), ("accept", 0, -1, 1, "ok"),
                      ("final", 0, 1, block(1)), ("call", 0) + PUT2, ("crash", 0, 2)):
            history.add(event)
        self.assertIs(precedes(history, PUT1, PUT2), True)
        self.assertIs(precedes(history, PUT2, PUT1), False)
        self.assertEqual(find_linear(history), [PUT1])
        self.assertIs(is_linear(history, [PUT1, PUT2]), True)
        self.assertIs(is_linear(history, [PUT2, PUT1]), False)


class IsLinearTest(unittest.TestCase):
    def test_the_empty_history(self):
        self.assertIs(is_linear(History(), []), True)
        self.assertIs(is_linear(History(), [PUT1]), False)

    def test_a_linear_order(self):
        history = history_of(PUT1, PUT2, (-1, "ok"), GET1, (-2, "refused 0 owner"), (-1, "a"))
        self.assertIs(is_linear(history, [PUT1, PUT2, GET1]), True)
        self.assertIs(is_linear(history, [PUT1, GET1, PUT2]), True)
        # The put of -2 is refused only behind that of -1.
        self.assertIs(is_linear(history, [PUT2, PUT1, GET1]), False)

    def test_a_command_that_was_not_called(self):
        history = history_of(PUT1, (-1, "ok"))
        self.assertIs(is_linear(history, [PUT1]), True)
        for other in (PUT2, GET1, (-1, 1, "put k b"), (-2, 1, "put k a")):
            self.assertIs(is_linear(history, [PUT1, other]), False)
            self.assertIs(is_linear(history, [other]), False)

    def test_a_command_that_is_there_twice(self):
        history = history_of(PUT1, (-1, "ok"), PUT2)
        self.assertIs(is_linear(history, [PUT1, PUT1]), False)
        self.assertIs(is_linear(history, [PUT1, PUT2, PUT1]), False)
        self.assertIs(is_linear(history, [PUT1, PUT2]), True)

    def test_an_accepted_command_that_is_left_out(self):
        history = history_of(PUT1, PUT2, (-1, "ok"), (-2, "refused 0 owner"))
        self.assertIs(is_linear(history, [PUT1, PUT2]), True)
        self.assertIs(is_linear(history, [PUT1]), False)
        self.assertIs(is_linear(history, []), False)

    def test_an_open_command_may_be_left_out(self):
        history = history_of(PUT1, PUT2, (-1, "ok"))
        self.assertIs(is_linear(history, [PUT1]), True)
        self.assertIs(is_linear(history, [PUT1, PUT2]), True)
        self.assertIs(is_linear(history, [PUT2, PUT1]), False)

    def test_real_time(self):
        history = history_of((-1, 1, "keys a"), (-1, "-"), (-2, 1, "keys b"), (-2, "-"))
        first, second = history.calls()
        self.assertIs(is_linear(history, [first, second]), True)
        self.assertIs(is_linear(history, [second, first]), False)
        history = history_of((-1, 1, "keys a"), (-3, 1, "keys c"), (-1, "-"), (-2, 1, "keys b"))
        first, other, second = history.calls()
        self.assertIs(is_linear(history, [first, other, second]), True)
        self.assertIs(is_linear(history, [second, other, first]), False)
        self.assertIs(is_linear(history, [second, first]), False)

    def test_an_answer_that_differs(self):
        history = history_of(PUT1, PUT2, (-1, "ok"), (-2, "ok"))
        self.assertIs(is_linear(history, [PUT1, PUT2]), False)
        self.assertIs(is_linear(history, [PUT2, PUT1]), False)

    def test_the_numbers_of_a_client(self):
        history = history_of(PUT1, (-1, "ok"), GET1, (-1, "a"))
        self.assertIs(is_linear(history, [PUT1, GET1]), True)
        self.assertIs(is_linear(history, [GET1, PUT1]), False)


class FindTest(unittest.TestCase):
    def test_the_empty_history(self):
        self.assertEqual(find_linear(History()), [])

    def test_open_calls_alone(self):
        self.assertEqual(find_linear(history_of(PUT1, PUT2)), [])

    def test_the_order_of_the_calls_comes_first(self):
        history = history_of((-2, 1, "keys a"), (-1, 1, "keys b"), (-1, "-"), (-2, "-"))
        self.assertEqual(find_linear(history), [(-2, 1, "keys a"), (-1, 1, "keys b")])

    def test_an_order_that_is_not_that_of_the_calls(self):
        history = history_of(PUT2, PUT1, (-2, "refused 0 owner"), (-1, "ok"))
        self.assertEqual(find_linear(history), [PUT1, PUT2])

    def test_open_commands_are_tried_too(self):
        # They are tried in the order of the calls, so the open put is taken, which is not needed.
        other = (-3, 1, "put z z")
        history = history_of(other, PUT1, (-1, "ok"))
        self.assertEqual(find_linear(history), [other, PUT1])
        history = history_of(PUT1, other, (-1, "ok"))
        self.assertEqual(find_linear(history), [PUT1])

    def test_an_open_command_that_must_be_taken(self):
        get = (-3, 1, "get k")
        history = history_of(get, PUT1, (-3, "a"))
        self.assertEqual(find_linear(history), [PUT1, get])

    def test_an_open_command_that_must_be_left_out(self):
        get = (-3, 1, "get k")
        history = history_of(PUT1, get, (-3, "refused 0 missing"))
        self.assertEqual(find_linear(history), [get])

    def test_none(self):
        self.assertIsNone(find_linear(history_of(PUT1, (-1, "no"))))
        self.assertIsNone(find_linear(history_of(PUT1, PUT2, (-1, "ok"), (-2, "ok"))))
        # The get was called behind the accept of the put, so it cannot come ahead of it.
        self.assertIsNone(find_linear(history_of(PUT1, (-1, "ok"), (-2, 1, "get k"), (-2, "refused 0 missing"))))
        self.assertEqual(find_linear(history_of(PUT1, (-2, 1, "get k"), (-1, "ok"), (-2, "refused 0 missing"))),
                         [(-2, 1, "get k"), PUT1])

    def test_seven_and_eight_calls(self):
        rows = []
        for number in range(1, 8):
            rows.extend([(-1, number, f"put k v{number}"), (-1, "ok")])
        self.assertEqual(find_linear(history_of(*rows)), [row for row in rows if len(row) == 3])
        for extra in ((-1, 8, "get k"), (-2, 1, "get k")):
            with self.assertRaises(BadSchedule) as caught:
                find_linear(history_of(*rows, extra))
            self.assertEqual((caught.exception.line, caught.exception.reason), (0, "many"))
        rows = [(-number, 1, "keys a") for number in range(1, 9)]
        self.assertEqual(find_linear(history_of(*rows[:7])), [])
        with self.assertRaises(BadSchedule):
            find_linear(history_of(*rows))

    def test_it_gives_up_in_time(self):
        rows = [(-number, 1, f"put k{number} v") for number in range(1, 8)] + [(-number, "ok") for number in range(1, 7)]
        self.assertIsNone(find_linear(history_of(*rows, (-7, "no"))))

    def random_history(self, rng):
        """A history of a few clients whose answers come from a real order, most of the time."""
        history, state = History(), State()
        waiting, done = {}, {}
        numbers = {-1: 0, -2: 0, -3: 0}
        calls = 0
        for _ in range(16):
            client = rng.choice([-1, -2, -3])
            if client in done and rng.randrange(2):
                answer = done.pop(client)
                history.add(("accept", 0, client, numbers[client], answer if rng.randrange(12) else "no"))
            elif client in waiting and rng.randrange(3):
                done[client] = execute(state, waiting.pop(client))
            elif client not in waiting and client not in done and calls < 7:
                numbers[client] += 1
                calls += 1
                text = rng.choice(["put k a", "put k b", "get k", "drop k", "swap k a b", "keys k", "swap k b a"])
                waiting[client] = (client, numbers[client], text)
                history.add(("call", 0) + waiting[client])
        return history

    def first_order(self, history):
        """The first list in the order of point 663 that is a linear order and cannot end earlier."""
        calls = history.calls()
        accepted = {row[:2] for row in history.accepted()}

        def search(taken):
            if accepted <= {command[:2] for command in taken}:
                return taken if is_linear(history, taken) else None
            for command in calls:
                if command not in taken:
                    found = search(taken + [command])
                    if found is not None:
                        return found
            return None

        return search([])

    def test_against_all_orders(self):
        rng = random.Random(3)
        counts = [0, 0]
        for _ in range(60):
            history = self.random_history(rng)
            if len(history.calls()) > 5:
                continue
            found = find_linear(history)
            self.assertEqual(found, self.first_order(history))
            counts[found is None] += 1
            orders = [list(order) for size in range(len(history.calls()) + 1)
                      for order in itertools.permutations(history.calls(), size)]
            self.assertEqual(any([is_linear(history, order) for order in orders]), found is not None)
        self.assertGreater(min(counts), 5)

    def test_what_the_judge_passes_is_linear(self):
        rng = random.Random(4)
        passed = 0
        for _ in range(300):
            history = self.random_history(rng)
            order = rng.sample(history.calls(), rng.randrange(len(history.calls()) + 1))
            if rng.randrange(3):
                found = find_linear(history)
                order = order if found is None else found
            ledger = [block(at + 1, at, at + 1, (command,)) for at, command in enumerate(order)]
            if judge(history, [ledger]) == []:
                passed += 1
                self.assertIs(is_linear(history, ledger_commands(ledger)), True)
                self.assertIsNotNone(find_linear(history))
        self.assertGreater(passed, 60)


if __name__ == "__main__":
    unittest.main()
