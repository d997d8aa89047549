/- What the draws of lists stand on, on a seat without ListOk. -/
import Derived.Test.YtcihplachlokiaaDoorEkM
import Derived.Test.YtcihplachlokiaaDoorZb
import Derived.Test.YtcihplachlokiaaDoorDaM
