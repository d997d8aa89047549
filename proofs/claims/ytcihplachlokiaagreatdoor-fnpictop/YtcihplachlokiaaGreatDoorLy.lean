/- Nothing. -/
import Derived.Test.YtcihplachlokiaaGreatDoorChecked
