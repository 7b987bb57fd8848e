"""The state of the service, and the execution of commands on it (points 409 to 411)."""

from oathledger.accounts import Accounts
from oathledger.errors import BadCommand, Refused
from oathledger.language import parse_command
from oathledger.limits import MOST_ANSWER
from oathledger.sessions import Sessions
from oathledger.store import Store

RESULT_LIMIT = 60


class State:
    """All that the commands of a ledger have changed."""

    def __init__(self):
        self.accounts = Accounts()
        self.store = Store()
        self.sessions = Sessions()

    def clone(self):
        """Return an independent copy."""
        state = State()
        state.accounts = self.accounts.clone()
        state.store = self.store.clone()
        state.sessions = self.sessions.clone()
        return state


def run(state, client, parsed):
    """Run the statements of a command, all of them or none, and return the answer."""
    # The statements change copies, which are thrown away if one of the statements is refused.
    accounts = state.accounts.clone()
    store = state.store.clone()
    answer = ""
    for index, statement in enumerate(parsed):
        try:
            result = perform(accounts, store, client, statement)
        except Refused as refusal:
            return f"refused {index} {refusal.reason}"
        answer = f"{answer};{result}" if index > 0 else result
        if len(answer) > MOST_ANSWER:
            return f"refused {index} long"
    state.accounts = accounts
    state.store = store
    return answer


def perform(accounts, store, client, statement):
    """Perform one statement, and return its result."""
    match statement:
        case ("balance", name):
            return str(accounts.balance(name))
        case ("get", key):
            return store.read(key)
        case ("keys", prefix):
            return keys_result(store.matching(prefix))
        case ("atleast", name, amount):
            require(accounts.balance(name) >= amount)
        case ("same", key, value):
            require(store.read(key) == value)
        case ("put", key, value):
            store.put(client, key, value)
        case ("drop", key):
            store.drop(client, key)
        case ("swap", key, old, new):
            store.swap(key, old, new)
        case _:
            change_accounts(accounts, client, statement)
    return "ok"


def change_accounts(accounts, client, statement):
    """Perform a statement that changes accounts or holds."""
    match statement:
        case ("open", name):
            accounts.create(client, name)
        case ("close", name):
            accounts.close(client, name)
        case ("issue", name, amount):
            accounts.issue(client, name, amount)
        case ("burn", name, amount):
            accounts.burn(client, name, amount)
        case ("pay", source, target, amount):
            accounts.pay(client, source, target, amount)
        case ("hold", source, target, amount, key):
            accounts.hold(client, source, target, amount, key)
        case ("settle", key):
            accounts.settle(client, key)
        case ("release", key):
            accounts.release(client, key)


def require(holds):
    """Refuse if what a statement requires does not hold."""
    if not holds:
        raise Refused("need")


def keys_result(keys):
    """Return the result for the keys that were found."""
    if len(keys) == 0:
        return "-"
    text = ",".join(keys)
    if len(text) > RESULT_LIMIT:
        return "#" + str(len(keys))
    return text


def execute(state, command):
    """Execute a command, and return the answer."""
    client, number, text = command
    last = state.sessions.last(client)
    if number < last:
        return "stale"
    if number == last:
        return state.sessions.answer(client)
    answer = run_text(state, client, text)
    state.sessions.remember(client, number, answer)
    return answer


def run_text(state, client, text):
    """Run the text of a command, and return the answer."""
    try:
        parsed = parse_command(text)
    except BadCommand as fault:
        return f"invalid {fault.statement} {fault.reason}"
    return run(state, client, parsed)


def execute_block(state, block):
    """Execute the commands of a block, and return the clients, numbers and answers."""
    return [(command[0], command[1], execute(state, command)) for command in block[3]]
