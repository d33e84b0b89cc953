import unittest

from stillhands.errors import HandsError, NoBox, NoDeed, NoHand, NoNumber

REFUSALS = (NoNumber, NoBox, NoHand, NoDeed)


class RefusalsTest(unittest.TestCase):
    def test_any_refusal_is_a_value_error(self):
        self.assertEqual(HandsError.__bases__, (ValueError,))

    def test_each_stands_straight_under_hands_error(self):
        for refusal in REFUSALS:
            with self.subTest(refusal=refusal.__name__):
                self.assertEqual(refusal.__bases__, (HandsError,))

    def test_each_can_be_caught_as_either(self):
        for refusal in REFUSALS:
            for caught in (refusal, HandsError, ValueError):
                with self.subTest(refusal=refusal.__name__, caught=caught.__name__):
                    with self.assertRaises(caught):
                        raise refusal("no")

    def test_none_is_one_of_the_others(self):
        for one in REFUSALS:
            for other in REFUSALS:
                with self.subTest(one=one.__name__, other=other.__name__):
                    self.assertEqual(issubclass(one, other), one is other)

    def test_any_refusal_is_none_of_the_four(self):
        for refusal in REFUSALS:
            with self.subTest(refusal=refusal.__name__):
                self.assertFalse(issubclass(HandsError, refusal))


if __name__ == "__main__":
    unittest.main()
