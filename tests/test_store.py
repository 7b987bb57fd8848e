"""Point 408: the store."""

import random
import unittest

from oathledger.errors import Refused
from oathledger.store import ENTRY_LIMIT, Store


def with_keys():
    """Keys of the clients -2 and -3."""
    store = Store()
    for client, key, value in ((-2, "a.1", "x"), (-3, "a", "y"), (-2, "a.10", "x"), (-2, "b", "007")):
        store.put(client, key, value)
    return store


ROWS = [("a", -3, "y"), ("a.1", -2, "x"), ("a.10", -2, "x"), ("b", -2, "007")]


def full_store():
    store = Store()
    for count in range(200):
        store.put(-2, f"k{count}", "v")
    return store


class StoreTest(unittest.TestCase):
    def assert_refused(self, store, reason, call):
        before = store.rows()
        with self.assertRaises(Refused) as caught:
            call(store)
        self.assertEqual(caught.exception.reason, reason)
        self.assertEqual(store.rows(), before)

    def test_constant(self):
        self.assertEqual(ENTRY_LIMIT, 200)

    def test_empty(self):
        self.assertEqual((Store().rows(), Store().matching("")), ([], []))

    def test_rows(self):
        store = with_keys()
        self.assertEqual(store.rows(), ROWS)
        store.rows().append(1)
        self.assertEqual(store.rows(), ROWS)

    def test_put(self):
        store = with_keys()
        self.assertIsNone(store.put(-3, "c", "z"))
        self.assertEqual(store.rows(), ROWS + [("c", -3, "z")])
        self.assertIsNone(store.put(-2, "b", "8"))
        self.assertEqual(store.rows(), ROWS[:3] + [("b", -2, "8"), ("c", -3, "z")])
        self.assert_refused(store, "owner", lambda store: store.put(-3, "b", "9"))
        self.assert_refused(store, "owner", lambda store: store.put(-2, "a", "y"))

    def test_most_keys(self):
        store = full_store()
        self.assertEqual(len(store.rows()), 200)
        self.assert_refused(store, "full", lambda store: store.put(-2, "more", "v"))
        store.put(-2, "k7", "w")
        self.assertEqual(store.read("k7"), "w")
        self.assert_refused(store, "owner", lambda store: store.put(-3, "k7", "w"))
        store.swap("k8", "v", "w")
        store.drop(-2, "k7")
        store.put(-3, "more", "v")
        self.assert_refused(store, "full", lambda store: store.put(-2, "k7", "v"))

    def test_read(self):
        store = with_keys()
        self.assertEqual([store.read(row[0]) for row in ROWS], [row[2] for row in ROWS])
        for key in ("", "a.", "a.2", "A", "x"):
            self.assert_refused(store, "missing", lambda store: store.read(key))

    def test_drop(self):
        store = with_keys()
        self.assertIsNone(store.drop(-2, "a.1"))
        self.assertEqual(store.rows(), ROWS[:1] + ROWS[2:])
        self.assert_refused(store, "missing", lambda store: store.drop(-2, "a.1"))
        self.assert_refused(store, "missing", lambda store: store.drop(-9, "z"))
        self.assert_refused(store, "owner", lambda store: store.drop(-2, "a"))
        store.put(-5, "a.1", "w")
        self.assertEqual(store.rows()[1], ("a.1", -5, "w"))

    def test_swap(self):
        store = with_keys()
        self.assertIsNone(store.swap("b", "007", "x"))
        self.assertIsNone(store.swap("a", "y", "y"))
        self.assertEqual(store.rows(), ROWS[:3] + [("b", -2, "x")])
        self.assert_refused(store, "need", lambda store: store.swap("b", "007", "x"))
        self.assert_refused(store, "need", lambda store: store.swap("b", "X", "x"))
        self.assert_refused(store, "missing", lambda store: store.swap("c", "x", "y"))

    def test_the_owner_stays(self):
        store = with_keys()
        store.swap("a", "y", "z")
        self.assert_refused(store, "owner", lambda store: store.put(-2, "a", "w"))
        store.put(-3, "a", "w")
        self.assertEqual(store.rows()[0], ("a", -3, "w"))

    def test_matching(self):
        store = with_keys()
        cases = {"": ["a", "a.1", "a.10", "b"], "a": ["a", "a.1", "a.10"], "a.": ["a.1", "a.10"], "a.1": ["a.1", "a.10"],
                 "a.10": ["a.10"], "a.100": [], "b": ["b"], "c": [], ".": [], "1": []}
        for prefix, keys in cases.items():
            self.assertEqual(store.matching(prefix), keys)

    def test_clone(self):
        changes = [lambda each: each.put(-9, "new", "v"), lambda each: each.put(-2, "b", "v"), lambda each: each.drop(-2, "b"),
                   lambda each: each.swap("b", "007", "v")]
        for change in changes:
            store = with_keys()
            other = store.clone()
            self.assertEqual(other.rows(), ROWS)
            change(other)
            self.assertEqual(store.rows(), ROWS)
            after = other.rows()
            self.assertNotEqual(after, ROWS)
            change(store)
            self.assertEqual((store.rows(), other.rows()), (after, after))

    def test_random_operations(self):
        rng = random.Random(2)
        store, rows = Store(), {}
        for _ in range(2000):
            client, key = rng.choice([-1, -2]), rng.choice(["a", "b", "ab", "a.c"])
            old, new = rng.choice("vw"), rng.choice("vw")
            word = rng.choice(["put", "drop", "swap"])
            owner, value = rows.get(key, (None, None))
            if word == "put":
                reason = "owner" if owner not in (None, client) else None
            elif word == "drop":
                reason = "missing" if owner is None else ("owner" if owner != client else None)
            else:
                reason = "missing" if owner is None else ("need" if value != old else None)
            parts = {"put": (client, key, new), "drop": (client, key), "swap": (key, old, new)}[word]
            if reason is not None:
                self.assert_refused(store, reason, lambda store: getattr(store, word)(*parts))
            else:
                getattr(store, word)(*parts)
                if word == "drop":
                    del rows[key]
                else:
                    rows[key] = (client if word == "put" else owner, new)
            self.assertEqual(store.rows(), sorted((name,) + rows[name] for name in rows))
            self.assertEqual(store.matching("a"), sorted(name for name in rows if name[0] == "a"))


if __name__ == "__main__":
    unittest.main()
