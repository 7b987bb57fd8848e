"""Points 5, 7 and 664 in worlds: the judge finds no fault, and what is sent is answered in time."""

import random
import unittest

from oathledger.groups import Group
from oathledger.judge import judge, ledger_commands
from oathledger.limits import SPAN, STINT
from oathledger.linear import find_linear, is_linear
from oathledger.report import event_line, event_of, history_of, history_text, ledger_lines, summary
from oathledger.schedule import act_line, parse_schedule, run_schedule
from oathledger.world import World
from tests.liars import Liars
from tests.runs import TEXTS


class Play:
    """A world whose acts are drawn; the acts are kept."""

    def __init__(self, rng, faults, liars, clients, sectors=900):
        self.rng, self.group, self.names = rng, Group(faults), list(range(-clients, 0))
        self.world = World(faults, liars, clients, sectors)
        self.liars = Liars(rng, self.group, liars, self.names)
        self.head = f"world {faults} {clients} {sectors}" + (" " + ",".join(map(str, liars)) if liars else "")
        self.acts = []

    def act(self, *act):
        self.world.act(act)
        self.acts.append(act)

    def submit(self):
        self.act("submit", self.rng.choice(self.names), self.rng.choice(TEXTS))

    def lie(self):
        """Let the faulty machines say something to one machine, to a client or to many."""
        if not self.liars.names:
            return
        epoch = self.world.time() // SPAN
        name = self.rng.choice(self.names)
        pending = self.world.client(name).pending()
        if pending is not None and self.rng.randrange(12) == 0:
            self.act("say", self.rng.choice(self.liars.names), name, self.liars.answer(pending[0]))
        elif self.rng.randrange(2):
            self.act("say", *self.liars.words(epoch))
        else:
            block = self.liars.block(epoch)
            kind = self.rng.choice(["vote", "ready", "ready", "give", "propose"])
            letter = (kind, block[2], block) if kind == "give" else (kind, block)
            for sender in self.liars.names:
                for receiver in self.rng.sample(self.group.members(), self.group.quorum):
                    self.act("say", sender, receiver, letter)

    def crash_or_restart(self):
        machine = self.rng.choice(self.world.honest())
        if not self.world.is_up(machine):
            self.act("restart", machine, self.rng.randrange(2 ** 30))
        elif self.rng.randrange(3):
            self.act("arm", machine, self.rng.randrange(15))
        else:
            self.act("crash", machine)

    def bad_tick(self, lost, doubled, moved, crashes):
        """A tick and what is delivered behind it; the numbers are chances in thousandths."""
        self.act("tick", 1)
        for packet in self.world.packets()[-40:]:
            self.liars.watch(packet[2])
        if self.rng.randrange(4) == 0:
            self.submit()
        while self.rng.randrange(1000) < crashes:
            self.crash_or_restart()
        for _ in range(2 * len(self.world.packets())):
            count = len(self.world.packets())
            if count == 0:
                break
            if self.rng.randrange(40) == 0:
                self.lie()
            position = self.rng.randrange(min(40, count))
            chance = self.rng.randrange(1000)
            if chance < lost:
                self.act("lose", position)
            elif chance < lost + doubled:
                self.act("double", position)
            elif chance < lost + doubled + moved:
                self.act("move", position)
            else:
                self.act("deliver", position)
        while len(self.world.packets()) > 300:
            self.act("lose", self.rng.randrange(300))

    def wake(self):
        """Let all machines start again, so that no disk is armed."""
        for machine in self.world.honest():
            if self.world.is_up(machine):
                self.act("crash", machine)
            self.act("restart", machine, self.rng.randrange(2 ** 30))

    def ledgers(self):
        return [self.world.ledger(machine) for machine in self.world.honest()]

    def text(self):
        return "\n".join([self.head] + [act_line(act) for act in self.acts])


NETWORKS = [(0, 0, 0, 0), (10, 20, 100, 0), (60, 60, 200, 200), (5, 5, 50, 500), (150, 60, 150, 100)]


class WorldsTest(unittest.TestCase):
    def play(self, seed, faults, ticks, liars=None):
        rng = random.Random(seed)
        if liars is None:
            liars = sorted(rng.sample(range(3 * faults + 1), faults if seed % 4 else rng.randrange(faults + 1)))
        play = Play(rng, faults, liars, 1 + rng.randrange(3))
        for _ in range(ticks):
            play.bad_tick(*NETWORKS[seed % len(NETWORKS)])
        return play

    def assert_sound(self, play):
        """What the machines that are up have agrees; with all of them up, nothing is lost and each answer is right."""
        self.assertIsNone(next((fault for fault in judge(play.world.history(), play.ledgers()) if fault[0] != "missing"
                                and fault[0] != "lost"), None))
        play.wake()
        history = play.world.history()
        self.assertEqual(judge(history, play.ledgers()), [])
        self.assertEqual(summary(history, play.ledgers())[-1], "sound")
        longest = max(play.ledgers(), key=len)
        self.assertTrue(is_linear(history, ledger_commands(longest)))
        if len(history.calls()) <= 7:
            self.assertIsNotNone(find_linear(history))

    def assert_answered(self, play):
        """Point 7, where everything in flight is delivered behind each tick."""
        bound = (play.group.faults + 3) * STINT * SPAN
        first = {}
        for _ in range(bound):
            play.act("calm", 1)
            if play.rng.randrange(10) == 0:
                play.submit()
            if play.rng.randrange(3) == 0:
                play.lie()
            for name in play.names:
                pending = play.world.client(name).pending()
                if pending is not None:
                    began = first.setdefault((name, pending[0]), play.world.time())
                    self.assertLessEqual(play.world.time() - began, bound)
        self.assertEqual(judge(play.world.history(), play.ledgers()), [])

    def many(self, faults, seeds, ticks):
        blocks = accepted = crashes = 0
        for seed in seeds:
            play = self.play(seed, faults, ticks)
            blocks += max(len(ledger) for ledger in play.ledgers())
            accepted += len(play.world.history().accepted())
            crashes += len([event for event in play.world.history().events() if event[0] == "crash"])
            self.assert_sound(play)
            self.assert_answered(play)
            self.assertGreater(len(play.world.history().accepted()), 0)
        self.assertGreater(min(blocks, accepted, crashes), 20)

    def test_one_machine(self):
        self.many(0, range(10), 100)

    def test_four_machines(self):
        self.many(1, range(15), 150)

    def test_seven_machines(self):
        self.many(2, range(5), 130)

    def test_few_calls(self):
        linear = 0
        for seed in range(30):
            rng = random.Random(seed)
            play = Play(rng, 1, [seed % 4], 3)
            for name in play.names:
                for _ in range(2):
                    play.act("submit", name, rng.choice(["put k a", "put k b", "get k", "swap k a b", "swap k b a", "drop k"]))
            for _ in range(40):
                play.act("calm", 1)
                play.lie()
            self.assert_sound(play)
            order = find_linear(play.world.history())
            self.assertTrue(is_linear(play.world.history(), order))
            linear += len(order)
        self.assertGreater(linear, 100)


class TextsTest(unittest.TestCase):
    def test_a_play_as_a_schedule(self):
        for seed in range(5):
            play = WorldsTest().play(seed, seed % 3, 40)
            text = play.text()
            self.assertEqual([act for _, act in parse_schedule(text)[5]], play.acts)
            world = run_schedule(text)
            self.assertEqual(world.history().events(), play.world.history().events())
            self.assertEqual((world.packets(), world.time()), (play.world.packets(), play.world.time()))

    def test_a_history_as_text(self):
        for seed in range(5):
            play = WorldsTest().play(seed, 1, 60)
            history = play.world.history()
            text = history_text(history)
            self.assertEqual(history_of(text).events(), history.events())
            for event in history.events():
                self.assertEqual(event_of(event_line(event)), event)
            longest = max(play.ledgers(), key=len)
            empty = [block for block in longest if not block[3]]
            self.assertEqual(len(ledger_lines(longest)), len(ledger_commands(longest)) + len(empty))


class JudgedTest(unittest.TestCase):
    def test_a_ledger_that_misses_a_block_is_seen(self):
        play = WorldsTest().play(1, 1, 100, [3])
        play.wake()
        history, longest = play.world.history(), max(play.ledgers(), key=len)
        self.assertGreater(len(longest), 2)
        self.assertEqual(judge(history, [longest[:-1]])[-1][0], "lost")
        self.assertEqual(judge(history, [longest[1:]])[0], ("chain", 2))


if __name__ == "__main__":
    unittest.main()
