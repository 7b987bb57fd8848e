"""Points 401 to 405: command texts and their statements."""

import random
import unittest

from oathledger.errors import BadCommand
from oathledger.language import command_text, parse_command
from tests.values import PERCENT

# For each verb, its words and the statement, and the kinds of its arguments.
FORMS = {
    "open": ("open ann", ("open", "ann"), ["name"]),
    "close": ("close ann", ("close", "ann"), ["name"]),
    "issue": ("issue ann 100", ("issue", "ann", 100), ["name", "amount"]),
    "burn": ("burn ann 0", ("burn", "ann", 0), ["name", "amount"]),
    "pay": ("pay ann bob 30", ("pay", "ann", "bob", 30), ["name", "name", "amount"]),
    "balance": ("balance ann", ("balance", "ann"), ["name"]),
    "atleast": ("atleast ann 999999999999", ("atleast", "ann", 999999999999), ["name", "amount"]),
    "hold": ("hold ann bob 7 k.1", ("hold", "ann", "bob", 7, "k.1"), ["name", "name", "amount", "key"]),
    "settle": ("settle k.1", ("settle", "k.1"), ["key"]),
    "release": ("release 0", ("release", "0"), ["key"]),
    "put": ("put k 10", ("put", "k", "10"), ["key", "value"]),
    "get": ("get k", ("get", "k"), ["key"]),
    "drop": ("drop .", ("drop", "."), ["key"]),
    "swap": ("swap k A-1 007", ("swap", "k", "A-1", "007"), ["key", "value", "value"]),
    "same": ("same k =!", ("same", "k", "=!"), ["key", "value"]),
    "keys": ("keys k.", ("keys", "k."), ["key"]),
}
BAD_WORDS = {
    "name": ["a" * 13, "Ann", "a1", "1", "a.b", "-"],
    "amount": ["1000000000000", "01", "00", "-1", "+1", "x", "1.5", "1_0"],
    "key": ["k" * 21, "K", "k-1", "k_", "k:", ","],
    "value": ["v" * 41],
}


class LanguageTest(unittest.TestCase):
    def assert_bad(self, text, reason, statement):
        with self.assertRaises(BadCommand) as caught:
            parse_command(text)
        self.assertEqual((caught.exception.reason, caught.exception.statement), (reason, statement), text)

    def test_each_statement(self):
        self.assertEqual(len(FORMS), 16)
        for text, statement, _ in FORMS.values():
            found = parse_command(text)
            self.assertEqual(found, [statement])
            self.assertIsInstance(found, list)
            self.assertIsInstance(found[0], tuple)
            self.assertEqual([type(part) for part in found[0]], [type(part) for part in statement])
            self.assertEqual(command_text([statement]), text)

    def test_several_statements(self):
        texts = [form[0] for form in FORMS.values()]
        for start in range(0, 16, 4):
            self.assertEqual(parse_command(";".join(texts[start:start + 4])), [form[1] for form in FORMS.values()][start:start + 4])

    def test_number_of_arguments(self):
        for verb, (text, _, kinds) in FORMS.items():
            words = text.split(" ")[1:] + ["a", "a", "a", "a", "a", "a"]
            for count in range(8):
                if count != len(kinds):
                    self.assert_bad(" ".join([verb] + words[:count]), "count", 0)

    def test_verbs(self):
        for word in ("Open", "opens", "ope", "transfer", "0", "OPEN", "create", "read", "matching", "-", "key", "name"):
            self.assert_bad(word, "verb", 0)
            self.assert_bad(word + " ann", "verb", 0)
            self.assert_bad("open ann;" + word + " ann", "verb", 1)

    def test_each_argument(self):
        for text, _, kinds in FORMS.values():
            words = text.split(" ")
            for at, kind in enumerate(kinds):
                for bad in BAD_WORDS[kind]:
                    wrong = " ".join(words[:at + 1] + [bad] + words[at + 2:])
                    self.assert_bad(wrong, kind, 0)
                    self.assert_bad("open ann;" + wrong + ";close ann", kind, 1)

    def test_lengths_of_arguments(self):
        good = {"name": ["a", "z" * 12], "key": ["a", "9" * 20], "value": ["a", "~" * 40], "amount": ["0", "9" * 12]}
        for text, _, kinds in FORMS.values():
            words = text.split(" ")
            for at, kind in enumerate(kinds):
                for word in good[kind]:
                    statement = parse_command(" ".join(words[:at + 1] + [word] + words[at + 2:]))[0]
                    self.assertEqual(statement[at + 1], int(word) if kind == "amount" else word)

    def test_the_first_argument_that_is_wrong(self):
        cases = [
            ("issue A x", "name"), ("issue a x", "amount"), ("pay a B x", "name"), ("pay a b x", "amount"), ("hold A b x K", "name"),
            ("hold a B x K", "name"), ("hold a b x K", "amount"), ("hold a b 1 K", "key"), ("put K " + "v" * 41, "key"),
            ("swap k v " + "v" * 41, "value"), ("same K " + "v" * 41, "key"),
        ]
        for text, reason in cases:
            self.assert_bad(text, reason, 0)

    def test_order_within_a_statement(self):
        cases = [
            ("", "empty"), (" ", "space"), (" foo", "space"), ("foo  A", "space"), ("open  A B", "space"), ("issue ann ", "space"),
            ("foo", "verb"), ("foo A", "verb"), ("Open A", "verb"), ("open", "count"), ("open A B", "count"), ("issue A", "count"),
            ("hold A B x", "count"), ("open A", "name"),
        ]
        for text, reason in cases:
            self.assert_bad(text, reason, 0)

    def test_each_statement_is_checked_as_a_whole(self):
        wrong = {"empty": "", "space": "open  ann", "verb": "foo", "count": "open", "name": "open A", "amount": "issue a x",
                 "key": "get K", "value": "put k " + "v" * 41}
        for first, one in wrong.items():
            for other in wrong.values():
                self.assert_bad(one + ";" + other, first, 0)
                self.assert_bad("open a;" + one + ";" + other, first, 1)
                self.assert_bad("open a;get k;" + one, first, 2)

    def test_long_and_character_come_first(self):
        for text in ("", "open  ann", "foo", "open", "open A", "issue a x"):
            self.assert_bad(text + ";open a" + PERCENT, "character", 0)
            self.assert_bad(text + ";" + "a" * 241, "long", 0)
            self.assert_bad(text + ";\n" + "a" * 241, "long", 0)
        self.assert_bad("open ann\n", "character", 0)
        self.assert_bad("open ann;open \x00", "character", 0)

    def test_longest_text(self):
        text = ";".join(["put k v"] * 29) + ";put k vv"
        self.assertEqual(len(text), 240)
        self.assertEqual(command_text(parse_command(text)), text)
        self.assert_bad(text + "v", "long", 0)
        self.assert_bad(text + PERCENT, "long", 0)

    def test_semicolons(self):
        for text, statement in [(";open a", 0), ("open a;", 1), ("open a;;open b", 1), (";;", 0)]:
            self.assert_bad(text, "empty", statement)
        for text, statement in [("open a; open b", 1), ("open a ;open b", 0), ("open a; ;open b", 1)]:
            self.assert_bad(text, "space", statement)

    def test_examples(self):
        self.assertEqual(parse_command("issue ann 100;pay ann bob 30"), [("issue", "ann", 100), ("pay", "ann", "bob", 30)])
        self.assert_bad("pay ann bob 030", "amount", 0)

    def test_command_text(self):
        parsed = [("open", "ann"), ("issue", "ann", 0), ("put", "k", "0")]
        self.assertEqual(command_text(parsed), "open ann;issue ann 0;put k 0")
        self.assertEqual(parsed, [("open", "ann"), ("issue", "ann", 0), ("put", "k", "0")])

    def test_command_text_that_is_too_long(self):
        text = command_text([("put", "k", "v" * 40)] * 10)
        self.assertEqual(text, ";".join(["put k " + "v" * 40] * 10))
        self.assert_bad(text, "long", 0)

    def test_random_lists(self):
        rng = random.Random(4)
        words = {"name": ["a", "bob", "z" * 12], "amount": ["0", "1", "999999999999"], "key": ["k", "0.a", "9" * 20],
                 "value": ["v", "00", "~" * 40]}
        for _ in range(300):
            texts = []
            for _ in range(rng.randrange(1, 6)):
                verb = rng.choice(list(FORMS))
                texts.append(" ".join([verb] + [rng.choice(words[kind]) for kind in FORMS[verb][2]]))
            text = ";".join(texts)
            if len(text) <= 240:
                parsed = parse_command(text)
                self.assertEqual(command_text(parsed), text)
                self.assertEqual(parse_command(command_text(parsed)), parsed)


if __name__ == "__main__":
    unittest.main()
