"""Linear orders of histories (points 659, 662 and 663)."""

from oathledger.errors import BadSchedule
from oathledger.executor import State, execute

MOST_CALLS = 7


def precedes(history, first, second):
    """Tell whether the answer to the first command was accepted before the second one was called."""
    return is_before(moments_of(history), first, second)


def moments_of(history):
    """Return a dict from each call and each accept, with its client and number, to its index among the events."""
    moments = {}
    for index, event in enumerate(history.events()):
        if event[0] in ("call", "accept"):
            moments[(event[0], event[2], event[3])] = index
    return moments


def is_before(moments, first, second):
    """Tell whether one of the moments is the accept of the first command, and comes before the call of the second."""
    accept = ("accept", first[0], first[1])
    return accept in moments and moments[accept] < moments[("call", second[0], second[1])]


def is_linear(history, order):
    """Tell whether the list is a linear order of the history."""
    calls = history.calls()
    if not all([command in calls and order.count(command) == 1 for command in order]):
        return False
    return keeps_time(moments_of(history), order) and gives_answers(history, order)


def keeps_time(moments, order):
    """Tell whether no command of the list comes behind one that it precedes."""
    for index, command in enumerate(order):
        if any([is_before(moments, command, earlier) for earlier in order[:index]]):
            return False
    return True


def gives_answers(history, order):
    """Tell whether each accepted command is in the list, and executing the list gives its accepted answer."""
    state = State()
    rows = [(command[0], command[1], execute(state, command)) for command in order]
    return all([row in rows for row in history.accepted()])


def find_linear(history):
    """Return a linear order of the history, or None."""
    calls = history.calls()
    if len(calls) > MOST_CALLS:
        raise BadSchedule(0, "many")
    answers = {row[:2]: row[2] for row in history.accepted()}
    return complete(calls, answers, moments_of(history), [], State())


def complete(calls, answers, moments, taken, state):
    """Return the first linear order that begins with the taken commands, which led to the state, or None."""
    missing = [command for command in calls if command[:2] in answers and command not in taken]
    if len(missing) == 0:
        return taken
    for command in calls:
        if command in taken or any([is_before(moments, other, command) for other in missing]):
            continue
        after = state.clone()
        answer = execute(after, command)
        if answers.get(command[:2], answer) != answer:
            continue
        order = complete(calls, answers, moments, taken + [command], after)
        if order is not None:
            return order
    return None
