"""Points 400 and 409 to 411: running and executing commands."""

import copy
import random
import unittest

from oathledger.executor import RESULT_LIMIT, State, execute, execute_block, run
from oathledger.language import parse_command
from tests.values import PERCENT


def told(state):
    """What a state tells."""
    accounts = state.accounts
    return accounts.supply(), accounts.rows(), accounts.held(), state.store.rows(), state.sessions.rows()


def given(*texts):
    """A state after command texts of the clients -1 and -2, in turns: -1 begins."""
    state = State()
    for count, text in enumerate(texts):
        answer = execute(state, (-1 - count % 2, 1 + count // 2, text))
        assert answer.startswith("ok"), (text, answer)
    return state


def base():
    """Ann of -1 with 70 and bob of -2 with 5, a hold of 25 from ann to bob under k, and keys of both."""
    return given("open ann;issue ann 100", "open bob", "pay ann bob 5;hold ann bob 25 k", "put b.1 two;put b.2 x", "put a v;put c z")


class ResultTest(unittest.TestCase):
    def assert_answers(self, client, rows):
        for text, answer in rows:
            with self.subTest(text=text):
                state = base()
                before = told(state)
                self.assertEqual(run(state, client, parse_command(text)), answer)
                self.assertEqual(told(state)[4], before[4])
                if "refused" in answer:
                    self.assertEqual(told(state), before)

    def test_constant(self):
        self.assertEqual(RESULT_LIMIT, 60)

    def test_each_statement(self):
        self.assert_answers(-1, [
            ("open al", "ok"), ("open al;close al", "ok;ok"), ("issue bob 1", "ok"), ("burn ann 70", "ok"), ("pay ann bob 70", "ok"),
            ("balance ann", "70"), ("balance bob", "5"), ("atleast ann 70", "ok"), ("atleast bob 0", "ok"), ("hold ann ann 70 h", "ok"),
            ("settle k", "ok"), ("put new v", "ok"), ("put a w", "ok"), ("get a", "v"), ("get b.1", "two"), ("drop a", "ok"),
            ("swap b.1 two 2", "ok"), ("same b.1 two", "ok"), ("keys b", "b.1,b.2"), ("keys b.2", "b.2"), ("keys d", "-"), ("keys a", "a"),
        ])
        self.assert_answers(-2, [("release k", "ok"), ("close bob", "refused 0 busy"), ("put b.1 3", "ok")])

    def test_each_effect(self):
        rows = [
            (-1, "open al", "balance al", "0"), (-1, "issue bob 3", "balance bob", "8"), (-1, "burn ann 4", "balance ann", "66"),
            (-1, "pay ann bob 6", "balance ann;balance bob", "64;11"), (-1, "hold ann bob 2 h", "balance ann;balance bob", "68;5"),
            (-1, "settle k", "balance ann;balance bob", "70;30"), (-2, "release k", "balance ann;balance bob", "95;5"),
            (-1, "put a w", "get a", "w"), (-1, "drop a", "keys a", "-"), (-2, "swap a v u", "get a", "u"),
            (-1, "atleast ann 1", "balance ann", "70"), (-1, "same a v", "get a", "v"), (-1, "keys a", "get a", "v"),
            (-1, "get a", "get a", "v"), (-1, "open al;close al", "balance al", "refused 0 missing"),
        ]
        for client, text, question, answer in rows:
            state = base()
            self.assertNotIn("refused", run(state, client, parse_command(text)))
            self.assertEqual(run(state, client, parse_command(question)), answer)

    def test_each_refusal(self):
        self.assert_answers(-1, [
            ("open ann", "refused 0 taken"), ("close al", "refused 0 missing"), ("close bob", "refused 0 owner"),
            ("close ann", "refused 0 busy"), ("issue al 1", "refused 0 missing"), ("issue ann 999999999999", "ok"),
            ("burn al 1", "refused 0 missing"), ("burn bob 1", "refused 0 owner"), ("burn ann 71", "refused 0 funds"),
            ("pay ann al 1", "refused 0 missing"), ("pay bob ann 1", "refused 0 owner"), ("pay ann bob 71", "refused 0 funds"),
            ("balance al", "refused 0 missing"), ("atleast al 0", "refused 0 missing"), ("atleast ann 71", "refused 0 need"),
            ("hold al bob 1 h", "refused 0 missing"), ("hold bob ann 1 k", "refused 0 owner"), ("hold ann bob 71 k", "refused 0 funds"),
            ("hold ann bob 70 k", "refused 0 taken"), ("settle h", "refused 0 missing"), ("release k", "refused 0 owner"),
            ("release ann", "refused 0 missing"), ("put b.1 x", "refused 0 owner"), ("get k", "refused 0 missing"),
            ("drop k", "refused 0 missing"), ("drop b.1", "refused 0 owner"), ("swap k a b", "refused 0 missing"),
            ("swap a w x", "refused 0 need"), ("same k v", "refused 0 missing"), ("same a w", "refused 0 need"),
        ])
        self.assert_answers(-2, [("issue bob 1", "refused 0 mint"), ("settle k", "refused 0 owner")])

    def test_keys_and_accounts_are_told_apart(self):
        # k is the key of a hold, ann the name of an account, and a a key of the store.
        self.assert_answers(-1, [("put k v;get k;balance ann", "ok;v;70"), ("put ann v;same ann v", "ok;ok"), ("keys k", "-")])

    def test_statements_run_from_left_to_right(self):
        self.assert_answers(-1, [
            ("balance ann;pay ann bob 1;balance ann;pay ann bob 2;balance ann", "70;ok;69;ok;67"),
            ("get a;put a w;get a;drop a;put a u;get a", "v;ok;w;ok;ok;u"), ("drop a;get a", "refused 1 missing"),
        ])

    def test_long_lists_of_keys(self):
        # Two keys of 20 characters and one of 18 with their commas are 60 characters; of 19, they are 61.
        for last, result in ((18, None), (19, "#3")):
            keys = ["z" + "a" * 19, "z" + "b" * 19, "z" + "c" * (last - 1)]
            text = ",".join(keys)
            self.assertEqual(len(text), 42 + last)
            state = given(";".join(f"put {key} v" for key in keys), "put y v")
            self.assertEqual(run(state, -1, parse_command("keys z")), text if result is None else result)
            self.assertEqual(run(state, -1, parse_command("keys za;keys y")), keys[0] + ";y")

    def test_number_of_many_keys(self):
        state = State()
        for count in range(120):
            state.store.put(-3, f"k{count}", "v")
        self.assertEqual(run(state, -1, parse_command("keys k;keys k11;keys k1")), "#120;k11,k110,k111,k112,k113,k114,k115,k116,k117,k118,k119;#31")

    def long_state(self, last):
        """A state whose keys a, b, c and d hold 40 characters, and e that many."""
        state = given("put a " + "v" * 40 + ";put b " + "w" * 40 + ";put c " + "x" * 40, "open bob", "put d " + "y" * 40 + ";put e " + "z" * last)
        return state

    def test_answers_of_200_and_201_characters(self):
        gets = "get a;get b;get c;get d;get e"
        state = self.long_state(36)
        answer = run(state, -1, parse_command(gets))
        self.assertEqual(answer, ";".join(["v" * 40, "w" * 40, "x" * 40, "y" * 40, "z" * 36]))
        self.assertEqual(len(answer), 200)
        self.assertEqual(run(self.long_state(37), -1, parse_command(gets)), "refused 4 long")
        self.assertEqual(run(state, -1, parse_command(gets + ";get e")), "refused 5 long")
        self.assertEqual(run(state, -1, parse_command("get e;" + gets)), "refused 5 long")
        self.assertEqual(run(self.long_state(34), -1, parse_command(gets + ";keys f")), run(self.long_state(34), -1, parse_command(gets)) + ";-")
        self.assertEqual(run(self.long_state(35), -1, parse_command(gets + ";keys f")), "refused 5 long")

    def test_a_long_answer_has_no_effect(self):
        state = self.long_state(36)
        before = told(state)
        self.assertEqual(run(state, -1, parse_command("put a new;open al;get b;get b;get b;get b;get b;drop a")), "refused 6 long")
        self.assertEqual(told(state), before)

    def test_a_reason_comes_before_the_length(self):
        state = self.long_state(36)
        gets = "get a;get b;get c;get d;get e"
        self.assertEqual(run(state, -1, parse_command(gets + ";get f")), "refused 5 missing")
        self.assertEqual(run(state, -1, parse_command(gets + ";open al")), "refused 5 long")

    def test_a_refused_statement_at_each_place(self):
        good = ["open al", "issue al 9", "pay ann bob 1", "put new v", "swap b.1 two 2", "settle k", "drop a"]
        for at in range(len(good) + 1):
            texts = good[:at] + ["get none"] + good[at:]
            state = base()
            before = copy.deepcopy(told(state))
            self.assertEqual(run(state, -1, parse_command(";".join(texts))), f"refused {at} missing")
            self.assertEqual(told(state), before)
        state = base()
        self.assertEqual(run(state, -1, parse_command(";".join(good))), ";".join(["ok"] * 7))
        self.assertNotEqual(told(state), before)

    def test_the_first_refused_statement(self):
        self.assert_answers(-1, [("get none;open ann", "refused 0 missing"), ("open ann;get none", "refused 0 taken")])

    def test_parsed_stays(self):
        parsed = parse_command("put a w;get a;get none")
        run(base(), -1, parsed)
        self.assertEqual(parsed, parse_command("put a w;get a;get none"))


class ExecuteTest(unittest.TestCase):
    def test_example(self):
        state = State()
        for command, answer in [
            ((-1, 1, "open ann;issue ann 100"), "ok;ok"), ((-2, 1, "open bob;pay ann bob 30"), "refused 1 owner"),
            ((-1, 2, "pay ann bob 30"), "refused 0 missing"), ((-1, 2, "balance ann"), "refused 0 missing"), ((-1, 3, "balance ann"), "100"),
        ]:
            self.assertEqual(execute(state, command), answer)
        self.assertEqual(told(state), (100, [("ann", -1, 100)], [], [], [(-2, 1, "refused 1 owner"), (-1, 3, "100")]))

    def test_new_state(self):
        self.assertEqual(told(State()), (0, [], [], [], []))

    def test_greater_numbers(self):
        state = State()
        for number, text, answer in [(1, "put a v", "ok"), (2, "get a", "v"), (7, "get a", "v"), (10 ** 12, "drop a", "ok")]:
            self.assertEqual(execute(state, (-4, number, text)), answer)
            self.assertEqual(state.sessions.rows(), [(-4, number, answer)])
        self.assertEqual(execute(state, (-5, 3, "get a")), "refused 0 missing")
        self.assertEqual(state.sessions.rows(), [(-5, 3, "refused 0 missing"), (-4, 10 ** 12, "ok")])

    def test_equal_numbers(self):
        state = State()
        execute(state, (-4, 5, "put a v"))
        for text in ("put a v", "put a w", "get a", "", PERCENT, "x" * 300):
            before = told(state)
            self.assertEqual(execute(state, (-4, 5, text)), "ok")
            self.assertEqual(told(state), before)

    def test_lesser_numbers(self):
        state = State()
        execute(state, (-4, 5, "put a v"))
        before = told(state)
        for number in (1, 4):
            for text in ("put a w", "get a", "", "open  ann"):
                self.assertEqual(execute(state, (-4, number, text)), "stale")
                self.assertEqual(told(state), before)

    def test_clients_stand_apart(self):
        state = State()
        execute(state, (-4, 5, "put a v"))
        self.assertEqual(execute(state, (-5, 5, "get a")), "v")
        self.assertEqual(execute(state, (-6, 1, "put a w")), "refused 0 owner")

    def test_refused_commands_count(self):
        state = State()
        self.assertEqual(execute(state, (-4, 5, "get a")), "refused 0 missing")
        execute(state, (-5, 1, "put a v"))
        self.assertEqual(execute(state, (-4, 5, "get a")), "refused 0 missing")
        self.assertEqual(execute(state, (-4, 4, "get a")), "stale")
        self.assertEqual(execute(state, (-4, 6, "get a")), "v")

    def test_texts_that_are_no_command_texts(self):
        cases = {
            "": "invalid 0 empty", "open ann;": "invalid 1 empty", "open  ann": "invalid 0 space", "open ann; get k": "invalid 1 space",
            "foo": "invalid 0 verb", "open ann;open": "invalid 1 count", "open Ann": "invalid 0 name", "issue ann 01": "invalid 0 amount",
            "get K": "invalid 0 key", "put k " + "v" * 41: "invalid 0 value", "x" * 241: "invalid 0 long",
            "open " + PERCENT: "invalid 0 character", "open ann;get none;Foo": "invalid 2 verb",
        }
        for text, answer in cases.items():
            state = base()
            before = told(state)
            self.assertEqual(execute(state, (-9, 3, text)), answer)
            self.assertEqual(told(state)[:4], before[:4])
            self.assertEqual(state.sessions.rows(), [(-9, 3, answer)] + before[4])
            self.assertEqual(execute(state, (-9, 3, "get a")), answer)
            self.assertEqual(execute(state, (-9, 2, "get a")), "stale")
            self.assertEqual(execute(state, (-9, 4, "get a")), "v")

    def test_block(self):
        state = base()
        block = (9, 8, 7, ((-7, 1, "put n 1"), (-3, 4, "get n"), (-2, 3, "get none"), (-1, 1, "get a"), (-1, 3, "put a w")))
        expected = [(-7, 1, "ok"), (-3, 4, "1"), (-2, 3, "refused 0 missing"), (-1, 1, "stale"), (-1, 3, "ok;ok")]
        self.assertEqual(execute_block(state, block), expected)
        self.assertEqual(state.sessions.rows(), [(-7, 1, "ok"), (-3, 4, "1"), (-2, 3, "refused 0 missing"), (-1, 3, "ok;ok")])
        self.assertEqual(state.store.read("a"), "v")
        self.assertEqual(execute_block(state, (10, 9, 8, ())), [])

    def test_order_of_a_block(self):
        block = (1, 0, 1, ((-2, 1, "put a v"), (-1, 1, "get a")))
        self.assertEqual(execute_block(State(), block), [(-2, 1, "ok"), (-1, 1, "v")])
        block = (1, 0, 1, ((-2, 1, "get a"), (-1, 1, "put a v")))
        self.assertEqual(execute_block(State(), block), [(-2, 1, "refused 0 missing"), (-1, 1, "ok")])

    def test_clone(self):
        commands = [(-1, 4, "open al"), (-1, 4, "put new v"), (-1, 4, "pay ann bob 1"), (-2, 3, "release k"), (-9, 1, "get none")]
        for command in commands:
            state = base()
            before = told(state)
            other = state.clone()
            self.assertEqual(told(other), before)
            answer = execute(other, command)
            self.assertEqual(told(state), before)
            after = told(other)
            self.assertNotEqual(after, before)
            self.assertEqual(execute(state, command), answer)
            self.assertEqual((told(state), told(other)), (after, after))
            execute(state, (-1, 9, "put later v"))
            self.assertEqual(told(other), after)

    def test_attributes_of_a_state(self):
        state = State()
        state.accounts.create(-1, "ann")
        state.store.put(-1, "k", "v")
        state.sessions.remember(-1, 1, "x")
        self.assertEqual(told(state), (0, [("ann", -1, 0)], [], [("k", -1, "v")], [(-1, 1, "x")]))

    def test_the_same_commands_lead_to_the_same(self):
        rng = random.Random(9)
        verbs = ["open {a}", "close {a}", "issue {a} {n}", "pay {a} {b} {n}", "hold {a} {b} {n} {k}", "settle {k}", "release {k}",
                 "put {k} {n}", "get {k}", "swap {k} {n} 1", "keys {k}", "balance {a}", "atleast {a} {n}", "drop {k}", "foo"]
        commands = []
        for number in range(1, 120):
            for client in (-3, -2, -1):
                texts = [rng.choice(verbs).format(a=rng.choice("ab"), b=rng.choice("ab"), n=rng.randrange(4), k=rng.choice("xy"))
                         for _ in range(rng.randrange(1, 4))]
                commands.append((client, rng.choice([number, number, number, number - 1, number + 1]), ";".join(texts)))
        first, second = State(), State()
        answers = [execute(first, command) for command in commands if command[1] > 0]
        self.assertEqual([execute(second, command) for command in commands if command[1] > 0], answers)
        self.assertEqual(told(first), told(second))
        for word in ("ok", "refused", "invalid", "stale"):
            self.assertGreater(len([answer for answer in answers if answer.startswith(word)]), 5)


if __name__ == "__main__":
    unittest.main()
