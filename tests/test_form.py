"""Rules of the language subset that a look at the files can check; it does not replace reading the rules."""

import ast
import builtins
import pathlib
import re
import unittest

FOLDER = pathlib.Path(__file__).resolve().parent.parent / "oathledger"
FILES = sorted(path for path in FOLDER.rglob("*") if "__pycache__" not in path.parts)
TREES = {path.name: ast.parse(path.read_text(encoding="utf-8")) for path in FILES if path.suffix == ".py"}
CALLABLE = {
    "len", "range", "enumerate", "zip", "min", "max", "sum", "abs", "sorted", "reversed", "int", "str", "bool", "list", "tuple",
    "dict", "set", "isinstance", "ord", "repr", "any", "all", "divmod",
}
ERRORS = {"ValueError"}
BARRED_WORDS = re.compile(r"\b(type|typing|enum|Enum|Flag|Generic|Protocol|ABC|namedtuple|_wall|_WallAttr)\b")
BARRED_NAMES = {
    "register", "mro", "elements", "open", "input", "law", "exit", "id", "dir", "eval", "exec", "vars", "help", "os", "gc",
    "copyright", "credits", "license", "quit", "globals", "locals", "compile", "super",
}
STATEMENTS = (ast.ImportFrom, ast.FunctionDef, ast.ClassDef, ast.Assign)


def walk(kind):
    """All nodes of a kind, each with the name of its file."""
    return [(name, node) for name, tree in TREES.items() for node in ast.walk(tree) if isinstance(node, kind)]


def bound_names():
    """All names of variables, parameters, functions and classes, each with its file."""
    found = [(name, node.id) for name, node in walk(ast.Name) if isinstance(node.ctx, ast.Store)]
    found.extend([(name, node.arg) for name, node in walk(ast.arg)])
    found.extend([(name, node.name) for name, node in walk((ast.FunctionDef, ast.ClassDef))])
    return found


class FormTest(unittest.TestCase):
    def test_files(self):
        for path in FILES:
            self.assertTrue(path.is_file() and re.fullmatch(r"[a-z_]+\.py", path.name), path)

    def test_sizes_and_characters(self):
        for path in FILES:
            text = path.read_text(encoding="utf-8")
            self.assertLessEqual(len(text.splitlines()), 399, path.name)
            self.assertLessEqual(max([len(line) for line in text.splitlines()]), 120, path.name)
            self.assertTrue(all(character == "\n" or " " <= character <= "~" for character in text), path.name)
        for name, node in walk(ast.FunctionDef):
            self.assertLessEqual(node.end_lineno - node.lineno + 1, 40, (name, node.name))

    def test_module_level(self):
        for name, tree in TREES.items():
            for node in tree.body:
                docstring = isinstance(node, ast.Expr) and isinstance(node.value, ast.Constant)
                self.assertTrue(docstring or isinstance(node, STATEMENTS), (name, node.lineno))

    def test_imports(self):
        self.assertEqual(walk(ast.Import), [])
        for name, node in walk(ast.ImportFrom):
            self.assertEqual((node.module.split(".")[0], node.level), ("oathledger", 0), name)
            for alias in node.names:
                self.assertIsNone(alias.asname)
                tree = TREES[node.module.split(".")[1] + ".py"]
                defined = {each.name for each in tree.body if isinstance(each, (ast.FunctionDef, ast.ClassDef))}
                for each in tree.body:
                    if isinstance(each, ast.Assign):
                        defined.add(each.targets[0].id)
                self.assertIn(alias.name, defined, name)

    def test_names(self):
        for name, bound in bound_names():
            self.assertNotIn(bound, BARRED_NAMES, name)
            self.assertTrue(bound == "__init__" or re.fullmatch(r"_?[A-Za-z][A-Za-z0-9_]*|_", bound), (name, bound))
        functions = {node.name for tree in TREES.values() for node in tree.body if hasattr(node, "name")}
        variables = {bound for _, bound in bound_names()} - {node.name for _, node in walk(ast.FunctionDef)}
        for bound in functions | variables:
            self.assertFalse(hasattr(builtins, bound), bound)

    def test_no_local_name_is_that_of_an_import_or_class(self):
        for name, tree in TREES.items():
            outer = {alias.name for node in tree.body if isinstance(node, ast.ImportFrom) for alias in node.names}
            classes = [node for node in tree.body if isinstance(node, ast.ClassDef)]
            outer |= {node.name for node in classes}
            # A method may have such a name.
            methods = {node.name for each in classes for node in each.body if isinstance(node, ast.FunctionDef)}
            for file, bound in bound_names():
                if file == name and bound not in {node.name for node in classes} | methods:
                    self.assertNotIn(bound, outer, name)

    def test_builtins(self):
        for name, node in walk(ast.Name):
            if isinstance(node.ctx, ast.Load) and hasattr(builtins, node.id):
                self.assertIn(node.id, CALLABLE | ERRORS, (name, node.lineno))

    def test_strings(self):
        for name, node in walk(ast.Constant):
            self.assertNotIsInstance(node.value, (float, complex, bytes), (name, node.lineno))
            if isinstance(node.value, str):
                self.assertNotIn(chr(37), node.value, (name, node.lineno))
                self.assertFalse(node.value.endswith(("._", ".__")), (name, node.lineno))

    def test_words(self):
        docstrings = {id(node.body[0].value) for _, node in walk((ast.FunctionDef, ast.ClassDef, ast.Module))
                      if node.body and isinstance(node.body[0], ast.Expr)}
        for name, node in walk((ast.Constant, ast.Name, ast.Attribute)):
            if id(node) in docstrings:
                continue
            word = getattr(node, "value", None) if isinstance(node, ast.Constant) else getattr(node, "attr", getattr(node, "id", ""))
            self.assertIsNone(BARRED_WORDS.search(str(word)), (name, node.lineno))

    def test_statements(self):
        self.assertEqual(walk((ast.Global, ast.AsyncFunctionDef, ast.Yield, ast.YieldFrom, ast.Set, ast.SetComp, ast.Div)), [])
        for name, node in walk((ast.FunctionDef, ast.ClassDef)):
            self.assertEqual(node.decorator_list, [], name)
        for name, node in walk(ast.Raise):
            self.assertTrue(node.exc is None or isinstance(node.exc, ast.Call), (name, node.lineno))
        for name, node in walk(ast.Compare):
            if any(isinstance(operator, (ast.Is, ast.IsNot)) for operator in node.ops):
                self.assertIsInstance(node.comparators[0], ast.Constant, (name, node.lineno))


if __name__ == "__main__":
    unittest.main()
