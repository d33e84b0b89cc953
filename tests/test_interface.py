import importlib
import inspect
import unittest

CLASSES = {
    "stillhands.errors": {"HandsError": {}, "NoNumber": {}, "NoBox": {}, "NoHand": {}, "NoDeed": {}},
    "stillhands.boxes": {
        "Boxes": {"__init__": ["self", "many"], "take": ["self", "place"], "put": ["self", "place", "number"]},
    },
    "stillhands.plain": {"Plain": {"__init__": ["self", "many"], "done": ["self", "hand", "deed"]}},
    "stillhands.hall": {
        "Hall": {
            "__init__": ["self", "plans"], "step": ["self", "hand"], "weave": ["self", "row"],
            "steps_of": ["self", "hand"], "records": ["self"], "order": ["self"], "touches": ["self"],
        },
    },
}
FUNCTIONS = {
    "stillhands.packing": {"packed": ["row"], "parted": ["number"]},
    "stillhands.deeds": {"need_deed": ["deed", "hand"], "most_steps": ["deed", "many"]},
    "stillhands.judging": {"keeps": ["records", "order", "many"], "found_order": ["records", "many"]},
}


def parameters(function):
    return list(inspect.signature(function).parameters)


class InterfaceTest(unittest.TestCase):
    def test_classes_are_defined_in_their_files(self):
        for file, classes in CLASSES.items():
            for name in classes:
                with self.subTest(file=file, name=name):
                    found = vars(importlib.import_module(file))[name]
                    self.assertTrue(inspect.isclass(found))
                    self.assertEqual((found.__module__, found.__qualname__), (file, name))

    def test_methods_are_defined_in_the_class_itself(self):
        for file, classes in CLASSES.items():
            for name, methods in classes.items():
                found = vars(importlib.import_module(file))[name]
                for method, expected in methods.items():
                    with self.subTest(file=file, name=name, method=method):
                        self.assertTrue(inspect.isfunction(vars(found).get(method)))
                        self.assertEqual(parameters(vars(found)[method]), expected)

    def test_functions_are_defined_in_their_files(self):
        for file, functions in FUNCTIONS.items():
            for name, expected in functions.items():
                with self.subTest(file=file, name=name):
                    found = vars(importlib.import_module(file))[name]
                    self.assertTrue(inspect.isfunction(found))
                    self.assertEqual((found.__module__, found.__qualname__), (file, name))
                    self.assertEqual(parameters(found), expected)


if __name__ == "__main__":
    unittest.main()
