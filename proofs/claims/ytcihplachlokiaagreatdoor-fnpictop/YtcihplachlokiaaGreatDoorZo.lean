/- What the draws of lists stand on, on a seat without ListOk. -/
import Derived.Test.YtcihplachlokiaaGreatDoorEkM
import Derived.Test.YtcihplachlokiaaGreatDoorZb
import Derived.Test.YtcihplachlokiaaGreatDoorDaM
