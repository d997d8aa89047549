/- The walk of FnListBack and what its frame wants. -/
import Derived.Test.YtndfmgbdfcggmaaGreatDoorLtbM
import Derived.Test.YtndfmgbdfcggmaaGreatDoorLtz
