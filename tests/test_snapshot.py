"""Points 412 to 414: snapshots."""

import random
import unittest

from oathledger.errors import BadText
from oathledger.executor import State, execute
from oathledger.limits import MOST_STATE
from oathledger.snapshot import state_of, state_text
from oathledger.texts import decode, encode
from tests.values import PERCENT, STRANGE, with_part

EMPTY = "t5:i0;t0:t0:t0:t0:"
COMMANDS = [
    (-2, 1, "open bob"), (-1, 1, "open cat;issue cat 100;open ann;issue ann 7"), (-3, 5, "put b x;put a.1 y;put a z"),
    (-1, 2, "hold cat bob 30 k2;hold cat ann 0 k10;hold ann ann 7 j"), (-2, 4, "put b w"), (-100, 10 ** 12, ""), (-1, 3, "burn cat 10"),
]
VALUE = (
    97,
    (("ann", -1, 0), ("bob", -2, 0), ("cat", -1, 60)),
    (("j", "ann", "ann", 7), ("k10", "cat", "ann", 0), ("k2", "cat", "bob", 30)),
    (("a", -3, "z"), ("a.1", -3, "y"), ("b", -3, "x")),
    ((-100, 10 ** 12, "invalid 0 empty"), (-3, 5, "ok;ok;ok"), (-2, 4, "refused 0 owner"), (-1, 3, "ok")),
)
SUPPLY, ACCOUNTS, HOLDS, ENTRIES, SESSIONS = range(5)


def state_with(commands):
    state = State()
    for command in commands:
        execute(state, command)
    return state


def with_row(part, row, at=0):
    """The value with another row in one of its parts."""
    return with_part(VALUE, part, with_part(VALUE[part], at, row))


def random_commands(rng, count):
    verbs = ["open {a}", "open {a}", "close {a}", "issue {a} {n}", "pay {a} {b} {n}", "hold {a} {b} {n} {k}", "hold {a} {b} 0 {k}",
             "settle {k}", "release {k}", "put {k} {n}", "swap {k} {n} 1", "drop {k}", "balance {a}", "burn {a} {n}", "foo", "keys x"]
    commands = []
    for number in range(1, count):
        texts = [rng.choice(verbs).format(a=rng.choice("abc"), b=rng.choice("abc"), n=rng.randrange(9), k=rng.choice("xyz"))
                 for _ in range(rng.randrange(1, 3))]
        commands.append((rng.choice([-1, -1, -2, -3]), number, ";".join(texts)))
    return commands


class TextTest(unittest.TestCase):
    def test_empty(self):
        self.assertEqual(state_text(State()), EMPTY)
        self.assertEqual(state_text(state_of(EMPTY)), EMPTY)

    def test_rows_in_their_orders(self):
        text = state_text(state_with(COMMANDS))
        self.assertEqual(decode(text), VALUE)
        self.assertEqual(text, encode(VALUE))

    def test_the_way_does_not_matter(self):
        # Other commands, in another order, with the same rows at the end.
        state = State()
        for name, client in (("cat", -1), ("bob", -2), ("ann", -1)):
            state.accounts.create(client, name)
        state.accounts.issue(-1, "cat", 90)
        state.accounts.issue(-1, "ann", 7)
        state.accounts.hold(-1, "ann", "ann", 7, "j")
        state.accounts.hold(-1, "cat", "bob", 30, "k2")
        state.accounts.hold(-1, "cat", "ann", 0, "k10")
        for key, value in (("b", "x"), ("a.1", "y"), ("a", "z")):
            state.store.put(-3, key, value)
        for client, number, answer in VALUE[SESSIONS][::-1]:
            state.sessions.remember(client, number, answer)
        self.assertEqual(state_text(state), encode(VALUE))

    def test_states_that_differ(self):
        texts = [state_text(state_with(COMMANDS[:count])) for count in range(len(COMMANDS) + 1)]
        self.assertEqual(len(set(texts)), len(texts))

    def test_writing_changes_nothing(self):
        state = state_with(COMMANDS)
        self.assertEqual(state_text(state), state_text(state))

    def test_greatest_text(self):
        # Nothing in a state can be longer than here, and the text is still short enough.
        state = State()
        names = [a + b for a in "abcdefghij" for b in "abcdefghij"]
        for count, name in enumerate(names):
            state.accounts.create(-100, name * 6)
            state.accounts.issue(-1, name * 6, 10 ** 13)
        for name in names:
            state.accounts.hold(-100, name * 6, name * 6, 999999999999, name * 10)
        for count in range(200):
            state.store.put(-100, f"{count:020d}", "v" * 40)
        for client in range(-100, 0):
            state.sessions.remember(client, 10 ** 12, "a" * 200)
        text = state_text(state)
        self.assertEqual(state.accounts.supply(), 10 ** 15)
        self.assertLess(len(text), MOST_STATE)
        self.assertEqual(state_text(state_of(text)), text)

    def test_a_text_that_is_too_long(self):
        state = State()
        around = len(EMPTY) + len("t3:s1:ki-1;s59940:")
        for more, good in ((0, True), (1, False)):
            state.store.put(-1, "k", "v" * (MOST_STATE - around + more))
            if good:
                self.assertEqual(len(state_text(state)), MOST_STATE)
            else:
                with self.assertRaises(BadText):
                    state_text(state)

    def test_a_state_without_a_text(self):
        state = State()
        state.store.put(-1, "k", PERCENT)
        with self.assertRaises(BadText):
            state_text(state)


class ReadTest(unittest.TestCase):
    def assert_bad(self, value):
        with self.subTest(value=value):
            with self.assertRaises(BadText):
                state_of(encode(value))

    def assert_good(self, value):
        with self.subTest(value=value):
            self.assertEqual(state_text(state_of(encode(value))), encode(value))

    def test_each_state(self):
        for count in range(len(COMMANDS) + 1):
            state = state_with(COMMANDS[:count])
            other = state_of(state_text(state))
            self.assertEqual(state_text(other), state_text(state))
            for one, two in ((state.accounts.rows(), other.accounts.rows()), (state.accounts.held(), other.accounts.held()),
                             (state.store.rows(), other.store.rows()), (state.sessions.rows(), other.sessions.rows())):
                self.assertEqual(one, two)
            self.assertEqual(other.accounts.supply(), state.accounts.supply())

    def test_the_shape(self):
        self.assert_good(VALUE)
        for bad in [(), VALUE[:4], VALUE + ((),), (VALUE,), 5, None, "t5:", True, (0, (), (), ()), (0, (), (), (), (), ())]:
            self.assert_bad(bad)
        for part in range(1, 5):
            for bad in (None, 0, "", "ab", VALUE[part][0], (VALUE[part],), (5,), ("abc",), ((),), (None,)):
                self.assert_bad(with_part(VALUE, part, bad))

    def test_texts_that_are_not_canonical(self):
        text = encode(VALUE)
        for bad in ("", " ", text + " ", " " + text, text[:-1], text + "n", "t5:i00;t0:t0:t0:t0:", "t5:i-0;t0:t0:t0:t0:", EMPTY + EMPTY,
                    "t05:i0;t0:t0:t0:t0:", "t4:i0;t0:t0:t0:", "x"):
            with self.assertRaises(BadText):
                state_of(bad)
        for bad in STRANGE:
            with self.assertRaises(BadText):
                state_of(bad)

    def test_rows_of_another_length(self):
        for part in range(1, 5):
            row = VALUE[part][0]
            for bad in ((), row[:1], row[:-1], row + (0,), row + ("a",), (row,)):
                self.assert_bad(with_row(part, bad))

    def test_order(self):
        for part in range(1, 5):
            rows = VALUE[part]
            for bad in (rows[::-1], (rows[1], rows[0]) + rows[2:], rows[:2] + (rows[1],) + rows[2:], rows + (rows[-1],)):
                self.assert_bad(with_part(VALUE, part, bad))
        # Keys are compared as strings, and clients as integers.
        self.assert_good(with_part(VALUE, ENTRIES, (("9", -1, "v"), ("a", -1, "v"), ("a.", -1, "v"), ("aa", -1, "v"))))
        self.assert_bad(with_part(VALUE, ENTRIES, (("9", -1, "v"), ("10", -1, "v"))))
        self.assert_good(with_part(VALUE, SESSIONS, ((-10, 1, ""), (-9, 1, ""), (-1, 1, ""))))
        self.assert_bad(with_part(VALUE, SESSIONS, ((-9, 1, ""), (-10, 1, ""))))
        self.assert_bad(with_part(VALUE, SESSIONS, ((-9, 1, "a"), (-9, 2, "b"))))

    def test_names(self):
        for bad in ("", "a" * 13, "Al", "a1", "a.b", "a b", 1, None, True, (), ("al",)):
            self.assert_bad((0, ((bad, -1, 0),), (), (), ()))
        for good in ("a", "z" * 12):
            self.assert_good((0, ((good, -1, 0),), (), (), ()))

    def test_keys(self):
        for bad in ("", "a" * 21, "K", "a-b", "a b", "a;b", 1, None, False, (), ("k",)):
            self.assert_bad((0, (), (), ((bad, -1, "v"),), ()))
            self.assert_bad((0, (("a", -1, 0),), ((bad, "a", "a", 0),), (), ()))
        for good in ("a", "." * 20, "007"):
            self.assert_good((0, (), (), ((good, -1, "v"),), ()))
            self.assert_good((0, (("a", -1, 0),), ((good, "a", "a", 0),), (), ()))

    def test_values(self):
        for bad in ("", "v" * 41, "a b", "a;b", " ", ";", 1, None, True, (), ("v",)):
            self.assert_bad((0, (), (), (("k", -1, bad),), ()))
        for good in ("v", "~" * 40, "A,b:C"):
            self.assert_good((0, (), (), (("k", -1, good),), ()))

    def test_owners(self):
        for bad in (0, 1, -101, True, None, "a", "-1", (-1,)):
            self.assert_bad((0, (("a", bad, 0),), (), (), ()))
            self.assert_bad((0, (), (), (("k", bad, "v"),), ()))
        for good in (-1, -2, -100):
            self.assert_good((0, (("a", good, 0),), (), (), ()))
            self.assert_good((0, (), (), (("k", good, "v"),), ()))

    def test_balances_and_amounts(self):
        for supply, balance, amount, good in [
            (5, 5, 0, True), (5, 0, 5, True), (5, 2, 3, True), (0, 0, 0, True), (4, 5, -1, False), (4, -1, 5, False), (1, True, 0, False),
            (1, 0, True, False), (0, None, 0, False), (0, 0, None, False), (0, "0", 0, False), (0, 0, "", False), (0, False, 0, False),
            (0, 0, False, False), (0, (), 0, False),
        ]:
            value = (supply, (("a", -1, balance),), (("k", "a", "a", amount),), (), ())
            if good:
                self.assert_good(value)
            else:
                self.assert_bad(value)

    def test_accounts_of_holds(self):
        accounts = (("a", -1, 0), ("b", -2, 0))
        for source, target, good in [("a", "b", True), ("b", "a", True), ("a", "a", True), ("c", "a", False), ("a", "c", False),
                                     ("c", "c", False), ("", "a", False), (1, "a", False), ("a", None, False), ("a", ("a",), False)]:
            value = (3, accounts, (("k", source, target, 3),), (), ())
            if good:
                self.assert_good(value)
            else:
                self.assert_bad(value)
        self.assert_bad((0, (), (("k", "a", "a", 0),), (), ()))

    def test_supply(self):
        for bad in (96, 98, 0, -97, None, "97", 97 * 10, (97,)):
            self.assert_bad(with_part(VALUE, SUPPLY, bad))
        self.assert_bad(with_part((1, (("a", -1, 1),), (), (), ()), 0, True))
        self.assert_bad((False, (), (), (), ()))
        most = 10 ** 15
        for amounts, good in [((most, 0), True), ((0, most), True), ((most - 1, 1), True), ((most, 1), False), ((1, most), False),
                              ((most + 1, 0), False), ((0, most + 1), False), ((most * 2, -most), False)]:
            value = (sum(amounts), (("a", -1, amounts[0]),), (("k", "a", "a", amounts[1]),), (), ())
            if good:
                self.assert_good(value)
            else:
                self.assert_bad(value)

    def test_limits(self):
        names = [a + b for a in "abcdefghijk" for b in "abcdefghij"]
        for count in (100, 101):
            value = (0, tuple((name, -1, 0) for name in names[:count]), (), (), ())
            (self.assert_good if count == 100 else self.assert_bad)(value)
            value = (0, (("a", -1, 0),), tuple((name, "a", "a", 0) for name in names[:count]), (), ())
            (self.assert_good if count == 100 else self.assert_bad)(value)
        for count in (200, 201):
            value = (0, (), (), tuple((f"{number:03d}", -1, "v") for number in range(count)), ())
            (self.assert_good if count == 200 else self.assert_bad)(value)

    def test_sessions(self):
        cases = [
            (-1, 1, "", True), (-100, 10 ** 12, "a" * 200, True), (-1, 1, "a;b c", True), (0, 1, "", False), (-101, 1, "", False),
            (True, 1, "", False), (1, 1, "", False), (None, 1, "", False), ("-1", 1, "", False), (-1, 0, "", False), (-1, -1, "", False),
            (-1, 10 ** 12 + 1, "", False), (-1, True, "", False), (-1, None, "", False), (-1, "1", "", False), (-1, 1, "a" * 201, False),
            (-1, 1, None, False), (-1, 1, 5, False), (-1, 1, (), False),
        ]
        for client, number, answer, good in cases:
            value = (0, (), (), (), ((client, number, answer),))
            if good:
                self.assert_good(value)
            else:
                self.assert_bad(value)

    def test_each_session(self):
        rows = tuple((client, 1, "") for client in range(-100, 0))
        self.assert_good((0, (), (), (), rows))

    def test_a_row_that_is_wrong_at_each_place(self):
        for part, bad in ((ACCOUNTS, ("bz", 0, 0)), (HOLDS, ("k11", "cat", "zed", 0)), (ENTRIES, ("a.5", -3, "")), (SESSIONS, (-50, 0, ""))):
            rows = VALUE[part]
            for at in range(len(rows) + 1):
                self.assert_bad(with_part(VALUE, part, rows[:at] + (bad,) + rows[at:]))


class GoOnTest(unittest.TestCase):
    def test_the_same_commands(self):
        rng = random.Random(7)
        for _ in range(25):
            commands = random_commands(rng, 80)
            state = state_with(commands[:40])
            other = state_of(state_text(state))
            for command in commands[20:]:
                self.assertEqual(execute(other, command), execute(state, command))
                self.assertEqual(state_text(other), state_text(state))
                if rng.randrange(10) == 0:
                    other = state_of(state_text(other))

    def test_a_state_that_was_read_is_new(self):
        text = state_text(state_with(COMMANDS))
        first, second = state_of(text), state_of(text)
        execute(first, (-1, 9, "pay cat bob 1;put new v"))
        self.assertEqual(state_text(second), text)

    def test_a_copy_is_independent(self):
        state = state_with(COMMANDS)
        other = state.clone()
        text = state_text(state)
        for count, command in enumerate(random_commands(random.Random(1), 60)):
            execute(other, (command[0], 20 + count, command[2]))
        self.assertEqual(state_text(state), text)
        self.assertNotEqual(state_text(other), text)


if __name__ == "__main__":
    unittest.main()
