"""Points 601 to 604: clients."""

import random
import unittest

from oathledger.client import Client
from oathledger.groups import Group
from tests.objects import inside
from tests.values import STRANGE, block


def to_all(number, text, machines=4):
    """The letters of a pending command."""
    return [(machine, ("command", number, text)) for machine in range(machines)]


def client_with(*texts, faults=1):
    """A client that has submitted these texts."""
    client = Client(Group(faults), -3)
    for text in texts:
        client.submit(text)
    return client


def told(client):
    return client.pending(), client.accepted(), client.waiting()


class SubmitTest(unittest.TestCase):
    def test_a_new_client(self):
        client = Client(Group(1), -3)
        self.assertEqual(told(client), (None, [], 0))
        self.assertEqual(client.tick(), [])

    def test_the_first_text_is_sent_at_once(self):
        client = Client(Group(1), -3)
        self.assertEqual(client.submit("a"), to_all(1, "a"))
        self.assertEqual(told(client), ((1, "a"), [], 1))

    def test_later_texts_wait(self):
        client = client_with("a")
        self.assertEqual(client.submit("b"), [])
        self.assertEqual(client.submit("a"), [])
        self.assertEqual(told(client), ((1, "a"), [], 3))

    def test_the_empty_text(self):
        client = Client(Group(0), -1)
        self.assertEqual(client.submit(""), [(0, ("command", 1, ""))])
        self.assertEqual(told(client), ((1, ""), [], 1))

    def test_a_text_behind_accepted_ones(self):
        client = client_with("a", faults=0)
        client.receive(0, ("answer", 1, "ok"))
        self.assertEqual(told(client), (None, [(1, "a", "ok")], 0))
        self.assertEqual(client.submit("b"), to_all(2, "b", 1))
        self.assertEqual(told(client), ((2, "b"), [(1, "a", "ok")], 1))

    def test_every_size_of_group(self):
        for faults in (0, 1, 2, 10):
            self.assertEqual(Client(Group(faults), -1).submit("a"), to_all(1, "a", 3 * faults + 1))


class TickTest(unittest.TestCase):
    def test_the_pending_command_alone_is_sent_again(self):
        client = client_with("a", "b")
        for _ in range(3):
            self.assertEqual(client.tick(), to_all(1, "a"))
        client.receive(0, ("answer", 1, "ok"))
        self.assertEqual(client.tick(), to_all(1, "a"))
        client.receive(1, ("answer", 1, "ok"))
        self.assertEqual(client.tick(), to_all(2, "b"))
        client.receive(0, ("answer", 2, "ok"))
        client.receive(1, ("answer", 2, "ok"))
        self.assertEqual(client.tick(), [])


class AnswersTest(unittest.TestCase):
    def assert_no_effect(self, client, sender, letter):
        before = inside(client)
        self.assertEqual(client.receive(sender, letter), [])
        self.assertEqual(inside(client), before)

    def test_as_many_as_are_asked_for_and_one_fewer(self):
        for faults in (0, 1, 2, 4):
            client = client_with("a", "b", faults=faults)
            for machine in range(faults):
                self.assertEqual(client.receive(machine, ("answer", 1, "ok")), [])
                self.assertEqual(told(client), ((1, "a"), [], 2))
            self.assertEqual(client.receive(3 * faults, ("answer", 1, "ok")), to_all(2, "b", 3 * faults + 1))
            self.assertEqual(told(client), ((2, "b"), [(1, "a", "ok")], 1))

    def test_nothing_is_sent_behind_the_last_text(self):
        client = client_with("a")
        client.receive(3, ("answer", 1, "x"))
        self.assertEqual(client.receive(0, ("answer", 1, "x")), [])
        self.assertEqual(told(client), (None, [(1, "a", "x")], 0))

    def test_a_machine_counts_once(self):
        client = client_with("a")
        client.receive(2, ("answer", 1, "ok"))
        self.assert_no_effect(client, 2, ("answer", 1, "ok"))
        self.assert_no_effect(client, 2, ("answer", 1, "no"))
        client.receive(1, ("answer", 1, "no"))
        self.assertEqual(client.accepted(), [])
        client.receive(0, ("answer", 1, "ok"))
        self.assertEqual(client.accepted(), [(1, "a", "ok")])

    def test_the_first_answer_of_a_machine_counts(self):
        client = client_with("a")
        client.receive(2, ("answer", 1, "no"))
        self.assert_no_effect(client, 2, ("answer", 1, "ok"))
        client.receive(1, ("answer", 1, "ok"))
        self.assertEqual(client.accepted(), [])
        client.receive(0, ("answer", 1, "no"))
        self.assertEqual(client.accepted(), [(1, "a", "no")])

    def test_different_texts_do_not_add_up(self):
        client = client_with("a", faults=2)
        for machine, text in enumerate(["x", "y", "x", "y", ""]):
            self.assertEqual(client.receive(machine, ("answer", 1, text)), [])
        self.assertEqual(client.accepted(), [])
        client.receive(5, ("answer", 1, "y"))
        self.assertEqual(client.accepted(), [(1, "a", "y")])

    def test_other_numbers(self):
        client = client_with("a", "b", "c")
        self.assert_no_effect(client, 0, ("answer", 2, "ok"))
        client.receive(0, ("answer", 1, "ok"))
        client.receive(1, ("answer", 1, "ok"))
        for number in (1, 3, 10 ** 12):
            self.assert_no_effect(client, 2, ("answer", number, "ok"))
        # The answers to the command before do not count for this one.
        self.assertEqual(client.receive(2, ("answer", 2, "ok")), [])
        self.assertEqual(client.receive(0, ("answer", 2, "ok")), to_all(3, "c"))

    def test_an_answer_ahead_of_its_command_is_not_kept(self):
        client = client_with("a", "b")
        for machine in range(4):
            client.receive(machine, ("answer", 2, "ok"))
        client.receive(0, ("answer", 1, "ok"))
        client.receive(1, ("answer", 1, "ok"))
        self.assertEqual(told(client), ((2, "b"), [(1, "a", "ok")], 1))

    def test_senders_that_are_none(self):
        client = client_with("a", faults=0)
        for sender in [1, 4, -1, -3, 10 ** 13, "0", 0.0, False] + STRANGE:
            self.assert_no_effect(client, sender, ("answer", 1, "ok"))
        client = client_with("a", faults=1)
        self.assert_no_effect(client, 4, ("answer", 1, "ok"))
        self.assert_no_effect(client, True, ("answer", 1, "ok"))
        client.receive(3, ("answer", 1, "ok"))
        client.receive(0, ("answer", 1, "ok"))
        self.assertEqual(client.accepted(), [(1, "a", "ok")])

    def test_letters_that_are_no_answers(self):
        client = client_with("a", faults=0)
        letters = STRANGE + [
            (), ("answer",), ("answer", 1), ("answer", 1, "ok", 1), ("answer", "1", "ok"), ("answer", True, "ok"),
            ("answer", 1, "x" * 201), ("answer", 1, "\n"), ("answer", 1, None), ["answer", 1, "ok"], ("answers", 1, "ok"),
            ("command", 1, "ok"), ("claim", 1), ("vote", block(1)), ("give", 1, block(1)), ("vouch", (-3, 1, "a")),
        ]
        for letter in letters:
            self.assert_no_effect(client, 0, letter)
        client.receive(0, ("answer", 1, "x" * 200))
        self.assertEqual(client.accepted(), [(1, "a", "x" * 200)])

    def test_nothing_is_pending(self):
        client = client_with("a", faults=0)
        client.receive(0, ("answer", 1, "ok"))
        self.assert_no_effect(client, 0, ("answer", 1, "ok"))
        self.assert_no_effect(client, 0, ("answer", 2, "ok"))
        self.assertEqual(client.submit("b"), to_all(2, "b", 1))
        self.assertEqual(client.receive(0, ("answer", 2, "ok")), [])

    def test_accepted_returns_a_new_list(self):
        client = client_with("a", "b", faults=0)
        client.receive(0, ("answer", 1, "ok"))
        client.accepted().append(1)
        client.accepted().clear()
        client.receive(0, ("answer", 2, "no"))
        self.assertEqual(client.accepted(), [(1, "a", "ok"), (2, "b", "no")])


class RandomTest(unittest.TestCase):
    def test_against_a_list_of_answers(self):
        rng = random.Random(2)
        accepts = 0
        for _ in range(150):
            faults = rng.randrange(3)
            client = Client(Group(faults), -1)
            texts, accepted, first = [], [], []
            for _ in range(80):
                if rng.randrange(8) == 0:
                    texts.append(rng.choice("ab"))
                    sent = client.submit(texts[-1])
                    self.assertEqual(sent, to_all(len(texts), texts[-1], 3 * faults + 1)
                                     if len(texts) == len(accepted) + 1 else [])
                number = len(accepted) + 1
                letter = ("answer", rng.choice([number, number, number, max(1, number - 1), number + 1]), rng.choice("xy"))
                sender = rng.randrange(3 * faults + 2)
                counts = number <= len(texts) and letter[1] == number and sender <= 3 * faults
                if counts and sender not in [each[0] for each in first]:
                    first.append((sender, letter[2]))
                sent = client.receive(sender, letter)
                expected = []
                if [each[1] for each in first].count(letter[2]) == faults + 1:
                    accepted.append((number, texts[number - 1], letter[2]))
                    first = []
                    accepts += 1
                    if len(texts) > number:
                        expected = to_all(number + 1, texts[number], 3 * faults + 1)
                self.assertEqual(sent, expected)
                pending = (len(accepted) + 1, texts[len(accepted)]) if len(texts) > len(accepted) else None
                self.assertEqual(told(client), (pending, accepted, len(texts) - len(accepted)))
        self.assertGreater(accepts, 300)


if __name__ == "__main__":
    unittest.main()
