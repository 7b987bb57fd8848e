"""Points 1 to 7, and 519 and 520: groups of one, four and seven machines, of which some lie."""

import random
import unittest

from oathledger.limits import SPAN, STINT
from tests.runs import Run

NETWORKS = [(0, 0, 0, 0), (10, 20, 50, 0), (50, 50, 200, 10), (10, 0, 300, 40), (150, 50, 100, 20)]


class RunsTest(unittest.TestCase):
    def bad_run(self, rng, faults, liars, ticks, network):
        """A run of a bad network, which ends with a network that is timely."""
        run = Run(self, rng, faults, sorted(rng.sample(range(3 * faults + 1), liars)), 1 + rng.randrange(3))
        for _ in range(ticks):
            run.bad_tick(*network)
        run.become_timely()
        return run

    def wait_for_answers(self, run, ticks):
        """Point 7: each command is accepted in time, counted from now or from the tick at which it was first sent."""
        started = {}
        bound = (run.group.faults + 3) * STINT * SPAN
        for _ in range(ticks):
            run.timely_tick()
            if run.rng.randrange(12) == 0:
                run.submit()
            for name, client in run.clients.items():
                pending = client.pending()
                if pending is not None:
                    first = started.setdefault((name, pending[0]), run.time)
                    self.assertLessEqual(run.time - first, bound, (name, pending))
        return len(started)

    def many(self, seed, faults, count, ticks, timely):
        """Runs of groups of a size, with fewer and with as many liars as they tolerate."""
        rng = random.Random(seed)
        totals = [0, 0, 0]
        for turn in range(count):
            liars = faults if turn % 3 else rng.randrange(faults + 1)
            run = self.bad_run(rng, faults, liars, ticks, NETWORKS[turn % len(NETWORKS)])
            totals[0] += len(run.answers)
            totals[1] += self.wait_for_answers(run, timely)
            totals[2] += len(run.answers)
        return totals

    def test_one_machine(self):
        early, waited, late = self.many(1, 0, 10, 150, 100)
        self.assertGreater(min(early, waited, late - early), 40)

    def test_four_machines(self):
        early, waited, late = self.many(2, 1, 25, 150, 150)
        self.assertGreater(min(early, waited, late - early), 100)

    def test_seven_machines(self):
        early, waited, late = self.many(3, 2, 8, 120, 150)
        self.assertGreater(min(early, waited, late - early), 20)

    def test_as_many_silent_machines_as_the_group_tolerates(self):
        for faults in (1, 2):
            run = Run(self, random.Random(4), faults, list(range(faults)), 2)
            run.liars.names = []
            waited = self.wait_for_answers(run, 200)
            self.assertGreater(waited, 4)
            self.assertGreater(len(run.answers), 4)

    def test_a_machine_that_was_down_catches_up(self):
        run = Run(self, random.Random(5), 1, [], 1)
        run.machines[2] = None
        for _ in range(60):
            run.timely_tick()
            run.submit()
        self.assertGreater(len(run.longest), 5)
        self.assertEqual(run.ledgers[2], [])
        run.packets = []
        run.restart(2)
        for _ in range(12):
            run.timely_tick()
        self.assertGreater(len(run.ledgers[2]), 5)

    def test_what_was_answered_is_not_lost_when_all_machines_crash(self):
        run = Run(self, random.Random(6), 1, [3], 2)
        accepted = []
        for _ in range(4):
            self.wait_for_answers(run, 40)
            for number in run.honest:
                run.machines[number] = None
                run.disks[number].crash([])
            for number in run.honest:
                run.restart(number)
            names = [(name, each[0]) for name, client in run.clients.items() for each in client.accepted()]
            found = [each[:2] for ledger in run.ledgers.values() for block in ledger for each in block[3]]
            for name in names:
                self.assertGreaterEqual(found.count(name), 1)
            self.assertEqual(names[:0] + [name for name in accepted if name not in names], [])
            accepted = names
        self.assertGreater(len(accepted), 3)

    def test_the_same_calls_lead_to_the_same_letters(self):
        first, second = [self.bad_run(random.Random(7), 1, 1, 100, NETWORKS[2]) for _ in range(2)]
        self.assertEqual((first.packets, first.ledgers), (second.packets, second.ledgers))
        self.assertEqual([disk.image() for disk in first.disks.values()], [disk.image() for disk in second.disks.values()])


if __name__ == "__main__":
    unittest.main()
