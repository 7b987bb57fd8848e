"""The limits that all parts of the program share; point 103 tells what each one means."""

SPAN = 5
STINT = 5
MOST_FAULTS = 10
MOST_CLIENTS = 100
MOST_NUMBER = 10 ** 12
MOST_TEXT = 240
MOST_ANSWER = 200
MOST_STATE = 60000
MOST_DIGITS = 60
MOST_DEPTH = 12
MOST_LENGTH = 100000
