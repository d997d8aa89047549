/- The walk of FnListParse and what its frame wants. -/
import Derived.Test.YtndfmgbdfcggmaaGreatDoorLte
import Derived.Test.YtndfmgbdfcggmaaGreatDoorLtz
