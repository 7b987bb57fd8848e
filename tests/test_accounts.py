"""Points 406 and 407: accounts and holds."""

import random
import unittest

from oathledger.accounts import ACCOUNT_LIMIT, HOLD_LIMIT, SUPPLY_LIMIT, Accounts
from oathledger.errors import Refused

NAMES = [a + b for a in "abcdefghij" for b in "abcdefghijk"]


def told(accounts):
    """What the accounts tell."""
    return accounts.supply(), accounts.rows(), accounts.held()


def with_accounts():
    """Ann and Amy of client -2 and Bob of client -3, and a hold of 30 from Ann to Bob."""
    accounts = Accounts()
    for client, name, amount in ((-2, "ann", 130), (-3, "bob", 50), (-2, "amy", 0)):
        accounts.create(client, name)
        accounts.issue(-1, name, amount)
    accounts.hold(-2, "ann", "bob", 30, "k")
    return accounts


class Model:
    """Points 406 and 407 told once more, over one list of accounts and one of holds."""

    def __init__(self):
        self.accounts = []
        self.holds = []
        self.issued = 0

    def find(self, name):
        return next((row for row in self.accounts if row[0] == name), None)

    def reasons(self, operation, client, *parts):
        """Each reason of the operation in its order, and whether it applies."""
        first = self.find(parts[0]) if parts else None
        owner = first is not None and first[1] != client
        kept = next((row for row in self.holds if row[0] == parts[-1]), None)
        if operation == "create":
            return [("taken", first is not None), ("full", len(self.accounts) >= 100)]
        if operation == "close":
            busy = first is not None and (first[2] != 0 or any(first[0] in row[1:3] for row in self.holds))
            return [("missing", first is None), ("owner", owner), ("busy", busy)]
        if operation == "issue":
            return [("mint", client != -1), ("missing", first is None), ("limit", self.issued + parts[1] > 10 ** 15)]
        if operation == "burn":
            return [("missing", first is None), ("owner", owner), ("funds", first is not None and first[2] < parts[1])]
        if operation in ("pay", "hold"):
            missing = first is None or self.find(parts[1]) is None
            rows = [("missing", missing), ("owner", owner), ("funds", not missing and first[2] < parts[2])]
            if operation == "hold":
                rows.extend([("taken", kept is not None), ("full", len(self.holds) >= 100)])
            return rows
        account = None if kept is None else self.find(kept[1] if operation == "settle" else kept[2])
        return [("missing", kept is None), ("owner", account is not None and account[1] != client)]

    def reason(self, operation, client, *parts):
        return next((reason for reason, applies in self.reasons(operation, client, *parts) if applies), None)

    def add(self, name, amount):
        self.find(name)[2] += amount

    def act(self, operation, client, *parts):
        if operation == "create":
            self.accounts.append([parts[0], client, 0])
        elif operation == "close":
            self.accounts.remove(self.find(parts[0]))
        elif operation in ("issue", "burn"):
            amount = parts[1] if operation == "issue" else -parts[1]
            self.issued += amount
            self.add(parts[0], amount)
        elif operation == "pay":
            self.add(parts[0], -parts[2])
            self.add(parts[1], parts[2])
        elif operation == "hold":
            self.add(parts[0], -parts[2])
            self.holds.append((parts[3], parts[0], parts[1], parts[2]))
        else:
            kept = next(row for row in self.holds if row[0] == parts[0])
            self.holds.remove(kept)
            self.add(kept[2] if operation == "settle" else kept[1], kept[3])

    def told(self):
        return self.issued, sorted(tuple(row) for row in self.accounts), sorted(self.holds)


class AccountsTest(unittest.TestCase):
    def assert_refused(self, accounts, reason, call):
        before = told(accounts)
        with self.assertRaises(Refused) as caught:
            call(accounts)
        self.assertEqual(caught.exception.reason, reason)
        self.assertEqual(told(accounts), before)

    def assert_each_refused(self, cases):
        for reason, operation, parts in cases:
            with self.subTest(operation=operation, parts=parts):
                self.assert_refused(with_accounts(), reason, lambda accounts: getattr(accounts, operation)(*parts))

    def assert_done(self, operation, parts, rows, held, supply=180):
        accounts = with_accounts()
        self.assertIsNone(getattr(accounts, operation)(*parts))
        self.assertEqual(told(accounts), (supply, rows, held))

    def test_constants(self):
        self.assertEqual((SUPPLY_LIMIT, ACCOUNT_LIMIT, HOLD_LIMIT), (10 ** 15, 100, 100))

    def test_empty(self):
        self.assertEqual(told(Accounts()), (0, [], []))

    def test_what_is_told(self):
        accounts = with_accounts()
        self.assertEqual(told(accounts), (180, [("amy", -2, 0), ("ann", -2, 100), ("bob", -3, 50)], [("k", "ann", "bob", 30)]))
        self.assertEqual([accounts.balance(name) for name in ("amy", "ann", "bob")], [0, 100, 50])
        self.assertEqual([accounts.owner(name) for name in ("amy", "ann", "bob")], [-2, -2, -3])

    def test_lists_are_the_callers(self):
        accounts = with_accounts()
        before = told(accounts)
        accounts.rows().append(1)
        accounts.held().clear()
        self.assertEqual(told(accounts), before)

    def test_missing_accounts(self):
        for name in ("", "k", "an", "annn"):
            self.assert_refused(with_accounts(), "missing", lambda accounts: accounts.balance(name))
            self.assert_refused(with_accounts(), "missing", lambda accounts: accounts.owner(name))

    def test_create(self):
        self.assert_done("create", (-4, "al"), [("al", -4, 0), ("amy", -2, 0), ("ann", -2, 100), ("bob", -3, 50)],
                         [("k", "ann", "bob", 30)])
        self.assert_done("create", (-2, "k"), [("amy", -2, 0), ("ann", -2, 100), ("bob", -3, 50), ("k", -2, 0)],
                         [("k", "ann", "bob", 30)])
        self.assert_each_refused([("taken", "create", (-2, "ann")), ("taken", "create", (-4, "ann"))])

    def test_most_accounts(self):
        accounts = Accounts()
        for name in NAMES[:99]:
            accounts.create(-2, name)
        accounts.create(-3, NAMES[99])
        self.assertEqual(len(accounts.rows()), 100)
        self.assert_refused(accounts, "full", lambda accounts: accounts.create(-2, NAMES[100]))
        self.assert_refused(accounts, "taken", lambda accounts: accounts.create(-2, NAMES[50]))
        accounts.close(-2, NAMES[0])
        accounts.create(-2, NAMES[100])
        self.assert_refused(accounts, "full", lambda accounts: accounts.create(-2, NAMES[0]))

    def test_close(self):
        self.assert_done("close", (-2, "amy"), [("ann", -2, 100), ("bob", -3, 50)], [("k", "ann", "bob", 30)])
        self.assert_each_refused([
            ("missing", "close", (-2, "al")), ("owner", "close", (-3, "amy")), ("busy", "close", (-2, "ann")),
            ("owner", "close", (-3, "ann")), ("busy", "close", (-3, "bob")),
        ])

    def test_close_an_account_of_a_hold(self):
        accounts = with_accounts()
        accounts.burn(-2, "ann", 100)
        accounts.burn(-3, "bob", 50)
        self.assert_refused(accounts, "busy", lambda accounts: accounts.close(-2, "ann"))
        self.assert_refused(accounts, "busy", lambda accounts: accounts.close(-3, "bob"))
        self.assert_refused(accounts, "owner", lambda accounts: accounts.close(-2, "bob"))
        accounts.release(-3, "k")
        accounts.close(-3, "bob")
        self.assert_refused(accounts, "busy", lambda accounts: accounts.close(-2, "ann"))
        accounts.hold(-2, "ann", "amy", 0, "z")
        self.assert_refused(accounts, "busy", lambda accounts: accounts.close(-2, "amy"))
        accounts.settle(-2, "z")
        accounts.close(-2, "amy")

    def test_an_account_that_is_opened_again(self):
        accounts = with_accounts()
        accounts.close(-2, "amy")
        accounts.create(-5, "amy")
        self.assertEqual((accounts.owner("amy"), accounts.balance("amy")), (-5, 0))

    def test_issue(self):
        held = [("k", "ann", "bob", 30)]
        self.assert_done("issue", (-1, "amy", 7), [("amy", -2, 7), ("ann", -2, 100), ("bob", -3, 50)], held, 187)
        self.assert_done("issue", (-1, "ann", 0), [("amy", -2, 0), ("ann", -2, 100), ("bob", -3, 50)], held)
        self.assert_each_refused([
            ("mint", "issue", (-2, "ann", 1)), ("mint", "issue", (-100, "ann", 0)), ("missing", "issue", (-1, "al", 1)),
            ("mint", "issue", (-2, "al", 10 ** 15)), ("missing", "issue", (-1, "al", 10 ** 15)),
            ("limit", "issue", (-1, "ann", 10 ** 15 - 179)), ("mint", "issue", (-2, "ann", 10 ** 15)),
        ])

    def test_greatest_supply(self):
        accounts = with_accounts()
        accounts.issue(-1, "amy", 10 ** 15 - 180)
        self.assertEqual(accounts.supply(), 10 ** 15)
        self.assert_refused(accounts, "limit", lambda accounts: accounts.issue(-1, "ann", 1))
        accounts.issue(-1, "ann", 0)
        accounts.burn(-3, "bob", 2)
        self.assert_refused(accounts, "limit", lambda accounts: accounts.issue(-1, "ann", 3))
        accounts.issue(-1, "ann", 2)
        self.assertEqual(accounts.supply(), 10 ** 15)

    def test_burn(self):
        held = [("k", "ann", "bob", 30)]
        self.assert_done("burn", (-2, "ann", 100), [("amy", -2, 0), ("ann", -2, 0), ("bob", -3, 50)], held, 80)
        self.assert_done("burn", (-2, "amy", 0), [("amy", -2, 0), ("ann", -2, 100), ("bob", -3, 50)], held)
        self.assert_each_refused([
            ("missing", "burn", (-2, "al", 1)), ("owner", "burn", (-1, "ann", 1)), ("funds", "burn", (-2, "ann", 101)),
            ("owner", "burn", (-3, "ann", 101)), ("owner", "burn", (-3, "ann", 0)), ("funds", "burn", (-2, "amy", 1)),
        ])

    def test_pay(self):
        held = [("k", "ann", "bob", 30)]
        self.assert_done("pay", (-2, "ann", "bob", 100), [("amy", -2, 0), ("ann", -2, 0), ("bob", -3, 150)], held)
        self.assert_done("pay", (-2, "ann", "amy", 1), [("amy", -2, 1), ("ann", -2, 99), ("bob", -3, 50)], held)
        self.assert_done("pay", (-2, "amy", "bob", 0), [("amy", -2, 0), ("ann", -2, 100), ("bob", -3, 50)], held)
        self.assert_each_refused([
            ("missing", "pay", (-2, "al", "bob", 1)), ("missing", "pay", (-2, "ann", "al", 1)), ("missing", "pay", (-2, "al", "al", 0)),
            ("missing", "pay", (-3, "ann", "al", 1000)), ("owner", "pay", (-3, "ann", "bob", 1)),
            ("owner", "pay", (-3, "ann", "bob", 101)), ("funds", "pay", (-2, "ann", "bob", 101)),
        ])

    def test_pay_to_itself(self):
        rows = [("amy", -2, 0), ("ann", -2, 100), ("bob", -3, 50)]
        for amount in (0, 1, 100):
            self.assert_done("pay", (-2, "ann", "ann", amount), rows, [("k", "ann", "bob", 30)])
        self.assert_each_refused([
            ("funds", "pay", (-2, "ann", "ann", 101)), ("owner", "pay", (-3, "ann", "ann", 1)), ("missing", "pay", (-3, "al", "al", 1)),
        ])

    def test_hold(self):
        self.assert_done("hold", (-2, "ann", "bob", 100, "a"), [("amy", -2, 0), ("ann", -2, 0), ("bob", -3, 50)],
                         [("a", "ann", "bob", 100), ("k", "ann", "bob", 30)])
        self.assert_done("hold", (-2, "amy", "ann", 0, "z"), [("amy", -2, 0), ("ann", -2, 100), ("bob", -3, 50)],
                         [("k", "ann", "bob", 30), ("z", "amy", "ann", 0)])
        self.assert_each_refused([
            ("missing", "hold", (-2, "al", "bob", 1, "a")), ("missing", "hold", (-2, "ann", "al", 1, "a")),
            ("missing", "hold", (-3, "ann", "al", 1000, "k")), ("owner", "hold", (-3, "ann", "bob", 1, "a")),
            ("owner", "hold", (-3, "ann", "bob", 1000, "k")), ("funds", "hold", (-2, "ann", "bob", 101, "a")),
            ("funds", "hold", (-2, "ann", "bob", 101, "k")), ("taken", "hold", (-2, "ann", "bob", 1, "k")),
            ("taken", "hold", (-3, "bob", "ann", 0, "k")),
        ])

    def test_hold_for_itself(self):
        accounts = with_accounts()
        accounts.hold(-2, "ann", "ann", 60, "a")
        self.assertEqual((accounts.balance("ann"), accounts.supply()), (40, 180))
        self.assert_refused(accounts, "funds", lambda accounts: accounts.hold(-2, "ann", "ann", 41, "b"))
        accounts.settle(-2, "a")
        self.assertEqual(accounts.balance("ann"), 100)
        accounts.hold(-2, "ann", "ann", 60, "a")
        accounts.release(-2, "a")
        self.assertEqual(told(accounts), told(with_accounts()))

    def test_most_holds(self):
        accounts = with_accounts()
        for count in range(99):
            accounts.hold(-3, "bob", "bob", 0, f"h{count}")
        self.assertEqual(len(accounts.held()), 100)
        self.assert_refused(accounts, "full", lambda accounts: accounts.hold(-3, "bob", "bob", 0, "more"))
        self.assert_refused(accounts, "taken", lambda accounts: accounts.hold(-3, "bob", "bob", 0, "h7"))
        self.assert_refused(accounts, "funds", lambda accounts: accounts.hold(-3, "bob", "bob", 51, "more"))
        accounts.settle(-3, "h7")
        accounts.hold(-3, "bob", "bob", 0, "more")
        self.assert_refused(accounts, "full", lambda accounts: accounts.hold(-3, "bob", "bob", 0, "h7"))

    def test_settle(self):
        self.assert_done("settle", (-2, "k"), [("amy", -2, 0), ("ann", -2, 100), ("bob", -3, 80)], [])
        self.assert_each_refused([
            ("missing", "settle", (-2, "a")), ("missing", "settle", (-2, "ann")), ("missing", "settle", (-9, "")),
            ("owner", "settle", (-3, "k")), ("owner", "settle", (-1, "k")),
        ])

    def test_release(self):
        self.assert_done("release", (-3, "k"), [("amy", -2, 0), ("ann", -2, 130), ("bob", -3, 50)], [])
        self.assert_each_refused([
            ("missing", "release", (-3, "a")), ("missing", "release", (-3, "bob")), ("owner", "release", (-2, "k")),
            ("owner", "release", (-1, "k")),
        ])

    def test_a_hold_ends_once(self):
        for first, client in (("settle", -2), ("release", -3)):
            accounts = with_accounts()
            getattr(accounts, first)(client, "k")
            self.assert_refused(accounts, "missing", lambda accounts: accounts.settle(-2, "k"))
            self.assert_refused(accounts, "missing", lambda accounts: accounts.release(-3, "k"))
            accounts.hold(-2, "ann", "amy", 5, "k")
            self.assertEqual(accounts.held(), [("k", "ann", "amy", 5)])

    def test_order_of_rows(self):
        accounts = Accounts()
        for name in ("b", "ab", "a", "abc", "z"):
            accounts.create(-2, name)
            accounts.hold(-2, name, "b" if name != "b" else name, 0, name + ".1")
        self.assertEqual([row[0] for row in accounts.rows()], ["a", "ab", "abc", "b", "z"])
        self.assertEqual([row[0] for row in accounts.held()], ["a.1", "ab.1", "abc.1", "b.1", "z.1"])

    def test_clone(self):
        changes = [
            lambda each: each.create(-9, "new"), lambda each: each.close(-2, "amy"), lambda each: each.issue(-1, "ann", 1),
            lambda each: each.burn(-2, "ann", 1), lambda each: each.pay(-2, "ann", "bob", 1),
            lambda each: each.hold(-2, "ann", "bob", 1, "new"), lambda each: each.settle(-2, "k"), lambda each: each.release(-3, "k"),
        ]
        for change in changes:
            accounts = with_accounts()
            before = told(accounts)
            other = accounts.clone()
            self.assertEqual(told(other), before)
            change(other)
            self.assertEqual(told(accounts), before)
            after = told(other)
            self.assertNotEqual(after, before)
            change(accounts)
            self.assertEqual(told(other), after)
            self.assertEqual(told(accounts), after)

    def test_random_operations(self):
        rng = random.Random(6)
        counts = {}
        for _ in range(20):
            accounts, model = Accounts(), Model()
            for _ in range(400):
                operation = rng.choice(["create", "create", "close", "issue", "issue", "burn", "pay", "hold", "hold", "settle", "release"])
                name, other, key = rng.choice("abcde"), rng.choice("abcde"), rng.choice(["k", "l", "m", "a"])
                amount = rng.choice([0, 1, 5, 40, 10 ** 12, 5 * 10 ** 14])
                parts = {"create": (name,), "close": (name,), "issue": (name, amount), "burn": (name, amount),
                         "pay": (name, other, amount), "hold": (name, other, amount, key), "settle": (key,), "release": (key,)}[operation]
                client = rng.choice([-1, -2])
                reason = model.reason(operation, client, *parts)
                counts[operation, reason] = counts.get((operation, reason), 0) + 1
                if reason is None:
                    getattr(accounts, operation)(client, *parts)
                    model.act(operation, client, *parts)
                else:
                    self.assert_refused(accounts, reason, lambda accounts: getattr(accounts, operation)(client, *parts))
                self.assertEqual(told(accounts), model.told())
                supply, rows, held = told(accounts)
                self.assertEqual(supply, sum(row[2] for row in rows) + sum(row[3] for row in held))
        # Each reason of each operation but the two "full", and each operation done.
        self.assertEqual(len(counts), 29)


if __name__ == "__main__":
    unittest.main()
