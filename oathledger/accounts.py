"""Accounts with amounts of one currency, and holds of reserved amounts (points 406 and 407)."""

from oathledger.errors import Refused

SUPPLY_LIMIT = 10 ** 15
ACCOUNT_LIMIT = 100
HOLD_LIMIT = 100
# The only client that may issue.
MINT = -1


class Accounts:
    """The accounts, the holds and the supply."""

    def __init__(self):
        self._owners = {}
        self._balances = {}
        # For each key, the source, the target and the amount.
        self._holds = {}
        self._supply = 0

    def create(self, client, name):
        """Open an account."""
        if name in self._owners:
            raise Refused("taken")
        if len(self._owners) >= ACCOUNT_LIMIT:
            raise Refused("full")
        self._owners[name] = client
        self._balances[name] = 0

    def close(self, client, name):
        """Close an account."""
        self._check_owner(client, name)
        if self._balances[name] != 0 or self._is_held(name):
            raise Refused("busy")
        del self._owners[name]
        del self._balances[name]

    def issue(self, client, name, amount):
        """Create an amount on an account."""
        if client != MINT:
            raise Refused("mint")
        self._check(name)
        if self._supply + amount > SUPPLY_LIMIT:
            raise Refused("limit")
        self._balances[name] += amount
        self._supply += amount

    def burn(self, client, name, amount):
        """Destroy an amount of an account."""
        self._check_owner(client, name)
        self._check_funds(name, amount)
        self._balances[name] -= amount
        self._supply -= amount

    def pay(self, client, source, target, amount):
        """Move an amount from an account to an account."""
        self._check_payment(client, source, target, amount)
        self._balances[source] -= amount
        self._balances[target] += amount

    def hold(self, client, source, target, amount, key):
        """Reserve an amount of the source for the target."""
        self._check_payment(client, source, target, amount)
        if key in self._holds:
            raise Refused("taken")
        if len(self._holds) >= HOLD_LIMIT:
            raise Refused("full")
        self._balances[source] -= amount
        self._holds[key] = (source, target, amount)

    def settle(self, client, key):
        """Move the amount of a hold to its target."""
        source, target, amount = self._hold_of(key)
        self._check_owner(client, source)
        self._balances[target] += amount
        del self._holds[key]

    def release(self, client, key):
        """Return the amount of a hold to its source."""
        source, target, amount = self._hold_of(key)
        self._check_owner(client, target)
        self._balances[source] += amount
        del self._holds[key]

    def balance(self, name):
        """Return the balance of an account, without the amounts that are held."""
        self._check(name)
        return self._balances[name]

    def owner(self, name):
        """Return the owner of an account."""
        self._check(name)
        return self._owners[name]

    def supply(self):
        """Return the sum of the issued amounts minus the sum of the burned amounts."""
        return self._supply

    def rows(self):
        """Return the names, owners and balances, in ascending order of the name."""
        return [(name, self._owners[name], self._balances[name]) for name in sorted(self._owners)]

    def held(self):
        """Return the keys, sources, targets and amounts of the holds, in ascending order of the key."""
        return [(key,) + self._holds[key] for key in sorted(self._holds)]

    def clone(self):
        """Return an independent copy."""
        accounts = Accounts()
        accounts._owners = dict(self._owners)
        accounts._balances = dict(self._balances)
        accounts._holds = dict(self._holds)
        accounts._supply = self._supply
        return accounts

    def _check(self, name):
        """Refuse if there is no account of this name."""
        if name not in self._owners:
            raise Refused("missing")

    def _check_owner(self, client, name):
        """Refuse if there is no account of this name, or if the client does not own it."""
        self._check(name)
        if self._owners[name] != client:
            raise Refused("owner")

    def _check_funds(self, name, amount):
        """Refuse if the balance of an account is less than the amount."""
        if self._balances[name] < amount:
            raise Refused("funds")

    def _check_payment(self, client, source, target, amount):
        """Refuse if the client cannot move the amount from the source to the target."""
        # A target that is missing counts before an owner that does not fit.
        self._check(target)
        self._check_owner(client, source)
        self._check_funds(source, amount)

    def _hold_of(self, key):
        """Return the source, the target and the amount of a hold."""
        if key not in self._holds:
            raise Refused("missing")
        return self._holds[key]

    def _is_held(self, name):
        """Tell whether the account is the source or the target of a hold."""
        return any([name in hold[:2] for hold in list(self._holds.values())])
