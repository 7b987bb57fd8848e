"""The store of keys and values (point 408)."""

from oathledger.errors import Refused

ENTRY_LIMIT = 200


class Store:
    """Keys with their owners and values."""

    def __init__(self):
        self._owners = {}
        self._values = {}

    def put(self, client, key, value):
        """Store a value under a key."""
        if key in self._owners:
            self._check_owner(client, key)
        elif len(self._owners) >= ENTRY_LIMIT:
            raise Refused("full")
        self._owners[key] = client
        self._values[key] = value

    def read(self, key):
        """Return the value of a key."""
        self._check(key)
        return self._values[key]

    def drop(self, client, key):
        """Remove a key."""
        self._check(key)
        self._check_owner(client, key)
        del self._owners[key]
        del self._values[key]

    def swap(self, key, old, new):
        """Replace the old value of a key, whoever owns it."""
        if self.read(key) != old:
            raise Refused("need")
        self._values[key] = new

    def matching(self, prefix):
        """Return the keys that begin with the prefix, in ascending order."""
        return [key for key in sorted(self._owners) if key.startswith(prefix)]

    def rows(self):
        """Return the keys, owners and values, in ascending order of the key."""
        return [(key, self._owners[key], self._values[key]) for key in sorted(self._owners)]

    def clone(self):
        """Return an independent copy."""
        store = Store()
        store._owners = dict(self._owners)
        store._values = dict(self._values)
        return store

    def _check(self, key):
        """Refuse if the key does not exist."""
        if key not in self._owners:
            raise Refused("missing")

    def _check_owner(self, client, key):
        """Refuse if the client does not own the key, which exists."""
        if self._owners[key] != client:
            raise Refused("owner")
