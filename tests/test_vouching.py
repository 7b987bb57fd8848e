"""Points 501 to 505: vouching."""

import itertools
import random
import unittest

from oathledger.groups import Group
from oathledger.vouching import Vouching

A1, B1, A2, A3 = (-1, 1, "a"), (-1, 1, "b"), (-1, 2, "a"), (-1, 3, "a")
OTHER = (-5, 1, "a")
CLIENTS = [-5, -1]


def told(vouching, commands=(A1, B1, A2, A3, OTHER)):
    """What a vouching tells."""
    return vouching.own(), vouching.known(), vouching.backed(), [vouching.support(command) for command in commands]


def given(faults, me, own=(), others=()):
    """A vouching with own vouches, and vouches of others as pairs of the machine and the command."""
    vouching = Vouching(Group(faults), me)
    for command in own:
        vouching.restore(command)
    for sender, command in others:
        vouching.add(sender, command, 0)
    return vouching


class Model:
    """Points 501 to 505 told once more, over one list of pairs of a machine and a command."""

    def __init__(self, group, me):
        self.group = group
        self.me = me
        self.pairs = []

    def of(self, machine, client):
        return [command for who, command in self.pairs if who == machine and command[0] == client]

    def put(self, machine, command):
        self.pairs = [pair for pair in self.pairs if (pair[0], pair[1][0]) != (machine, command[0])] + [(machine, command)]

    def ask(self, command, last):
        if command[1] == last + 1 and not self.of(self.me, command[0]):
            self.put(self.me, command)
            return True
        return False

    def add(self, sender, command, last):
        if sender == self.me or command[1] <= max([last] + [old[1] for old in self.of(sender, command[0])]):
            return False
        self.put(sender, command)
        return True

    def executed(self, client, number):
        self.pairs = [(who, command) for who, command in self.pairs if command[0] != client or command[1] > number]

    def support(self, command):
        return len([pair for pair in self.pairs if pair[1] == command])

    def told(self, commands):
        every = sorted({command for _, command in self.pairs})
        own = sorted(command for who, command in self.pairs if who == self.me)
        known = [command for command in every if command in own or self.support(command) >= self.group.blocking]
        backed = [command for command in every if self.support(command) >= self.group.quorum]
        return own, known, backed, [self.support(command) for command in commands]


class AskTest(unittest.TestCase):
    def test_empty(self):
        self.assertEqual(told(Vouching(Group(1), 2)), ([], [], [], [0] * 5))

    def test_example(self):
        vouching = Vouching(Group(1), 0)
        self.assertIs(vouching.ask((-1, 2, "a"), 0), False)
        self.assertIs(vouching.ask((-1, 1, "a"), 0), True)
        self.assertIs(vouching.add(2, (-1, 1, "a"), 0), True)
        self.assertEqual((vouching.support((-1, 1, "a")), vouching.backed()), (2, []))

    def test_the_next_number(self):
        for last in (0, 4, 10 ** 12 - 1):
            for number in (last - 1, last, last + 1, last + 2):
                vouching = Vouching(Group(1), 0)
                self.assertIs(vouching.ask((-1, number, "a"), last), number == last + 1)
                self.assertEqual(vouching.own(), [(-1, number, "a")] if number == last + 1 else [])

    def test_an_own_vouch_there_already(self):
        for own in (A1, A2, A3):
            for command, last in ((A1, 0), (B1, 0), (A2, 1), (A3, 2)):
                vouching = given(1, 0, [own])
                self.assertIs(vouching.ask(command, last), False)
                self.assertEqual(vouching.own(), [own])
        vouching = given(1, 0, [A1])
        self.assertIs(vouching.ask(OTHER, 0), True)
        self.assertEqual(vouching.own(), [OTHER, A1])

    def test_vouches_of_others_do_not_matter(self):
        vouching = given(1, 0, [], [(1, B1), (2, B1), (3, A3)])
        self.assertIs(vouching.ask(A1, 0), True)
        self.assertEqual(told(vouching), ([A1], [A1, B1], [], [1, 2, 0, 1, 0]))

    def test_after_the_execution(self):
        vouching = given(1, 0, [A1])
        vouching.executed(-1, 1)
        self.assertIs(vouching.ask(A1, 1), False)
        self.assertIs(vouching.ask(A2, 1), True)
        self.assertEqual(vouching.own(), [A2])

    def test_restore(self):
        vouching = Vouching(Group(1), 3)
        self.assertIsNone(vouching.restore(A2))
        self.assertEqual(vouching.own(), [A2])
        vouching.restore(A3)
        vouching.restore(OTHER)
        self.assertEqual(vouching.own(), [OTHER, A3])
        vouching.restore(B1)
        self.assertEqual(vouching.own(), [OTHER, B1])


class AddTest(unittest.TestCase):
    def test_each_sender(self):
        for me in range(4):
            for sender in range(4):
                vouching = Vouching(Group(1), me)
                self.assertIs(vouching.add(sender, A1, 0), sender != me)
                self.assertEqual(vouching.support(A1), 0 if sender == me else 1)
                self.assertEqual(vouching.own(), [])

    def test_the_machine_itself(self):
        vouching = given(1, 2, [A1])
        self.assertIs(vouching.add(2, A2, 0), False)
        self.assertEqual(told(vouching), ([A1], [A1], [], [1, 0, 0, 0, 0]))

    def test_the_executed_number(self):
        for last, good in ((0, True), (1, True), (2, False), (3, False)):
            vouching = Vouching(Group(1), 0)
            self.assertIs(vouching.add(1, A2, last), good)
            self.assertEqual(vouching.support(A2), 1 if good else 0)

    def test_the_remembered_number(self):
        for command, good in ((A1, False), (B1, False), (A2, False), ((-1, 2, "c"), False), (A3, True)):
            vouching = given(1, 0, [], [(1, A2)])
            self.assertIs(vouching.add(1, command, 0), good)
            self.assertEqual(vouching.support(A2), 0 if good else 1)
            self.assertEqual(vouching.support(A3), 1 if good else 0)
            # Another machine and another client have their own numbers.
            self.assertIs(vouching.add(2, A1, 0), True)
            self.assertIs(vouching.add(1, OTHER, 0), True)
            self.assertEqual(vouching.support(OTHER), 1)

    def test_the_own_number_does_not_matter(self):
        vouching = given(1, 0, [A3])
        self.assertIs(vouching.add(1, A1, 0), True)
        self.assertEqual((vouching.support(A1), vouching.support(A3)), (1, 1))


class ExecutedTest(unittest.TestCase):
    def test_numbers_up_to_it(self):
        for number, left in ((0, [1, 1, 1, 1, 1]), (1, [0, 0, 1, 1, 1]), (2, [0, 0, 0, 1, 1]), (3, [0, 0, 0, 0, 1]), (99, [0, 0, 0, 0, 1])):
            vouching = given(1, 0, [A2, OTHER], [(1, A1), (2, A3), (3, B1)])
            self.assertIsNone(vouching.executed(-1, number))
            self.assertEqual(told(vouching)[3], left)
            self.assertEqual(vouching.own(), [OTHER, A2] if left[2] else [OTHER])

    def test_a_client_without_vouches(self):
        vouching = given(1, 0, [A1])
        vouching.executed(-5, 9)
        self.assertEqual(told(vouching), ([A1], [A1], [], [1, 0, 0, 0, 0]))
        self.assertIs(vouching.ask(OTHER, 0), True)

    def test_numbers_count_anew(self):
        vouching = given(1, 0, [], [(1, A3)])
        vouching.executed(-1, 3)
        self.assertIs(vouching.add(1, A2, 1), True)


class SupportTest(unittest.TestCase):
    def test_the_very_command(self):
        vouching = given(1, 0, [A1], [(1, A1), (2, B1), (3, A2)])
        self.assertEqual(told(vouching)[3], [2, 1, 1, 0, 0])
        self.assertEqual(vouching.support((-2, 1, "a")), 0)

    def test_a_vouch_that_was_replaced(self):
        vouching = given(1, 0, [], [(1, A1), (1, A2)])
        self.assertEqual(told(vouching)[3], [0, 0, 1, 0, 0])

    def test_known_and_backed(self):
        for faults in range(4):
            machines = 3 * faults + 1
            for own in (True, False):
                for others in range(machines):
                    vouching = given(faults, 0, [A1] if own else [], [(sender, A1) for sender in range(1, others + 1)])
                    support = others + own
                    self.assertEqual(vouching.support(A1), support)
                    self.assertEqual(vouching.own(), [A1] if own else [])
                    self.assertEqual(vouching.known(), [A1] if own or support >= faults + 1 else [])
                    self.assertEqual(vouching.backed(), [A1] if support >= 2 * faults + 1 else [])

    def test_support_is_not_added_up(self):
        vouching = given(1, 0, [], [(1, A1), (2, B1), (3, A2)])
        self.assertEqual((vouching.known(), vouching.backed()), ([], []))

    def test_ascending_without_duplicates(self):
        commands = [(-5, 1, "b"), (-1, 9, "a"), (-70, 1, "z"), (-1, 10, "a")]
        for order in itertools.permutations(commands[:3]):
            vouching = given(1, 0, order, [(sender, command) for sender in (1, 2, 3) for command in order])
            expected = [(-70, 1, "z"), (-5, 1, "b"), (-1, 9, "a")]
            self.assertEqual((vouching.own(), vouching.known(), vouching.backed()), (expected, expected, expected))
        vouching = given(2, 0, [(-1, 9, "b")], [(1, (-1, 10, "a")), (2, (-1, 10, "a")), (3, (-1, 10, "a")), (4, (-1, 9, "a")),
                                                (5, (-1, 9, "a")), (6, (-1, 9, "a"))])
        self.assertEqual(vouching.known(), [(-1, 9, "a"), (-1, 9, "b"), (-1, 10, "a")])

    def test_lists_are_the_callers(self):
        vouching = given(0, 0, [A1])
        for found in (vouching.own(), vouching.known(), vouching.backed()):
            self.assertEqual(found, [A1])
            found.append(1)
        self.assertEqual(told(vouching)[:3], ([A1], [A1], [A1]))

    def test_two_side_by_side(self):
        first, second = Vouching(Group(0), 0), Vouching(Group(0), 0)
        first.restore(A1)
        self.assertEqual(second.own(), [])


class RandomTest(unittest.TestCase):
    def test_random_calls(self):
        rng = random.Random(10)
        commands = [(client, number, text) for client in CLIENTS for number in (1, 2, 3, 4) for text in "ab"]
        for _ in range(40):
            group = Group(rng.randrange(3))
            me = rng.randrange(group.machines)
            vouching, model = Vouching(group, me), Model(group, me)
            for _ in range(60):
                command, last = rng.choice(commands), rng.randrange(3)
                word = rng.randrange(10)
                if word < 2:
                    self.assertIs(vouching.ask(command, last), model.ask(command, last))
                elif word < 8:
                    sender = rng.randrange(group.machines)
                    self.assertIs(vouching.add(sender, command, last), model.add(sender, command, last))
                elif word < 9:
                    vouching.executed(command[0], last)
                    model.executed(command[0], last)
                else:
                    vouching.restore(command)
                    model.put(me, command)
                self.assertEqual(told(vouching, commands), model.told(commands))


if __name__ == "__main__":
    unittest.main()
