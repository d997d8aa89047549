/- Nothing. -/
import Derived.Test.YtcihplachlokiaaDoorChecked
