"""The text of a state, and the state of a text (points 412 to 414)."""

from oathledger.accounts import ACCOUNT_LIMIT, HOLD_LIMIT, MINT, SUPPLY_LIMIT
from oathledger.errors import BadText
from oathledger.executor import State
from oathledger.limits import MOST_ANSWER, MOST_CLIENTS, MOST_STATE
from oathledger.requests import is_client, is_number
from oathledger.store import ENTRY_LIMIT
from oathledger.texts import decode, encode, is_integer, is_short
from oathledger.tokens import is_key, is_name, is_value


def state_text(state):
    """Return the text of a state."""
    accounts = tuple(state.accounts.rows())
    holds = tuple(state.accounts.held())
    entries = tuple(state.store.rows())
    sessions = tuple(state.sessions.rows())
    text = encode((state.accounts.supply(), accounts, holds, entries, sessions))
    if len(text) > MOST_STATE:
        raise BadText()
    return text


def state_of(text):
    """Return a new state with this text."""
    value = decode(text)
    if not is_snapshot(value):
        raise BadText()
    _, accounts, holds, entries, sessions = value
    state = State()
    fill_accounts(state.accounts, accounts, holds)
    for key, owner, word in entries:
        state.store.put(owner, key, word)
    for client, number, answer in sessions:
        state.sessions.remember(client, number, answer)
    return state


def fill_accounts(target, accounts, holds):
    """Repeat on empty accounts what leads to these rows."""
    for name, owner, balance in accounts:
        target.create(owner, name)
        target.issue(MINT, name, balance)
    for key, source, receiver, amount in holds:
        target.issue(MINT, source, amount)
        target.hold(target.owner(source), source, receiver, amount, key)


def is_snapshot(value):
    """Tell whether the plain value is a snapshot."""
    if not isinstance(value, tuple) or len(value) != 5:
        return False
    supply, accounts, holds, entries, sessions = value
    if not are_rows(accounts, is_account, ACCOUNT_LIMIT) or not are_rows(holds, is_hold, HOLD_LIMIT):
        return False
    if not are_rows(entries, is_entry, ENTRY_LIMIT) or not are_rows(sessions, is_session, MOST_CLIENTS):
        return False
    amounts = [row[2] for row in accounts] + [row[3] for row in holds]
    if not is_integer(supply, 0, SUPPLY_LIMIT) or supply != sum(amounts):
        return False
    names = {row[0]: True for row in accounts}
    return all([row[1] in names and row[2] in names for row in holds])


def are_rows(value, is_row, most):
    """Tell whether the value is a tuple of at most that many rows whose first items are strictly ascending."""
    if not isinstance(value, tuple) or len(value) > most or not all([is_row(row) for row in value]):
        return False
    return all([before[0] < after[0] for before, after in zip(value, value[1:])])


def is_account(row):
    """Tell whether the value is a row of an account."""
    if not isinstance(row, tuple) or len(row) != 3:
        return False
    name, owner, balance = row
    return isinstance(name, str) and is_name(name) and is_client(owner) and is_amount_held(balance)


def is_hold(row):
    """Tell whether the value is a row of a hold; its accounts are not looked for."""
    if not isinstance(row, tuple) or len(row) != 4:
        return False
    key, source, target, amount = row
    if not isinstance(source, str) or not isinstance(target, str):
        return False
    return isinstance(key, str) and is_key(key) and is_amount_held(amount)


def is_amount_held(value):
    """Tell whether the value is an integer from 0 on; one above the limit makes the supply too great, too."""
    return is_integer(value, 0, SUPPLY_LIMIT)


def is_entry(row):
    """Tell whether the value is a row of a key of the store."""
    if not isinstance(row, tuple) or len(row) != 3:
        return False
    key, owner, word = row
    return isinstance(key, str) and is_key(key) and is_client(owner) and isinstance(word, str) and is_value(word)


def is_session(row):
    """Tell whether the value is a row of a client."""
    if not isinstance(row, tuple) or len(row) != 3:
        return False
    client, number, answer = row
    return is_client(client) and is_number(number) and is_short(answer, MOST_ANSWER)
