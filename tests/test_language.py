"""The rules for the package's files that can be seen without judgement (signs, sizes, imports, words)."""

import ast
import builtins
import pathlib
import re
import unittest

PACKAGE = pathlib.Path(__file__).resolve().parent.parent / "solidpicture"
WORDS_NOT_USED = re.compile(
    r"\b(type|typing|typing_extensions|enum|Enum|IntEnum|StrEnum|Flag|IntFlag|Generic|Protocol|ABC|ABCMeta"
    r"|namedtuple|NamedTuple|TypedDict|TYPE_CHECKING|abstractmethod)\b|dataclass|overload|contextmanager"
)
STATEMENTS_NOT_USED = (
    ast.With, ast.Match, ast.Delete, ast.Global, ast.Nonlocal, ast.Assert, ast.Yield, ast.YieldFrom,
    ast.AsyncFunctionDef, ast.AsyncFor, ast.AsyncWith, ast.Await, ast.SetComp, ast.DictComp,
    ast.GeneratorExp, ast.NamedExpr, ast.Starred, ast.Div, ast.Import,
)
# Of Python's own names, those that are of use here.
NAMES_USED = (
    "len", "range", "enumerate", "zip", "min", "max", "sum", "abs", "sorted", "reversed", "int", "str", "bool", "list",
    "tuple", "dict", "set", "isinstance", "any", "all", "divmod",
)


def package_files():
    return [path for path in sorted(PACKAGE.rglob("*")) if path.is_file() and "__pycache__" not in path.parts]


class Language(unittest.TestCase):
    def each_tree(self):
        for path in package_files():
            yield path, ast.parse(path.read_text(encoding="ascii"))

    def test_files(self):
        names = [path.relative_to(PACKAGE).as_posix() for path in package_files()]
        self.assertIn("__init__.py", names)
        self.assertIn("drawing.py", names)
        for name in names:
            self.assertRegex(name, r"\A([a-z0-9_]+/)*[a-z0-9_]+\.py\Z")

    def test_signs_and_sizes(self):
        for path in package_files():
            text = path.read_bytes().decode("latin-1")
            self.assertRegex(text, r"\A[\n -~]*\Z", path)
            rows = text.split("\n")
            self.assertLessEqual(len(rows), 401, path)
            self.assertLessEqual(max(len(row) for row in rows), 120, path)

    def test_function_sizes(self):
        for path, tree in self.each_tree():
            for node in ast.walk(tree):
                if isinstance(node, ast.FunctionDef):
                    self.assertLessEqual(node.end_lineno - node.lineno + 1, 40, (path, node.name))

    def test_imports_are_the_package_s_own(self):
        for path, tree in self.each_tree():
            for node in ast.walk(tree):
                if isinstance(node, ast.ImportFrom):
                    self.assertEqual(node.level, 0, path)
                    self.assertRegex(node.module, r"\A(solidpicture(\..+)?|__future__)\Z", path)

    def test_words_and_statements(self):
        for path, tree in self.each_tree():
            self.assertIsNone(WORDS_NOT_USED.search(path.read_text(encoding="ascii")), path)
            for node in ast.walk(tree):
                self.assertNotIsInstance(node, STATEMENTS_NOT_USED, path)

    def test_python_s_own_names(self):
        for path, tree in self.each_tree():
            for node in ast.walk(tree):
                if isinstance(node, ast.Name) and hasattr(builtins, node.id):
                    self.assertIsInstance(node.ctx, ast.Load, (path, node.id))
                    self.assertIn(node.id, NAMES_USED, path)
                if isinstance(node, ast.arg):
                    self.assertFalse(hasattr(builtins, node.arg), (path, node.arg))

    def test_no_two_files_draw_from_one_another(self):
        drawn = {}
        for path, tree in self.each_tree():
            name = ".".join(("solidpicture",) + path.relative_to(PACKAGE).with_suffix("").parts)
            drawn[name] = [node.module for node in ast.walk(tree) if isinstance(node, ast.ImportFrom)]
        for name in drawn:
            reached = list(drawn[name])
            for other in reached:
                reached += [further for further in drawn.get(other, []) if further not in reached]
            self.assertNotIn(name, reached)

    def test_one_target_in_an_assignment_and_only_methods_in_a_class(self):
        for path, tree in self.each_tree():
            for node in ast.walk(tree):
                if isinstance(node, ast.Assign):
                    self.assertEqual(len(node.targets), 1, (path, node.lineno))
                if isinstance(node, ast.ClassDef):
                    for part in node.body:
                        self.assertIsInstance(part, ast.FunctionDef, (path, part.lineno))


if __name__ == "__main__":
    unittest.main()
