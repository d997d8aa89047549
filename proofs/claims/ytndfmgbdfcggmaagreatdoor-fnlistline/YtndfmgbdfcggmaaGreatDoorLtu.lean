/- The walk of FnListLine and what its frame wants. -/
import Derived.Test.YtndfmgbdfcggmaaGreatDoorLtfM
import Derived.Test.YtndfmgbdfcggmaaGreatDoorLtz
