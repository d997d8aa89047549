/- What the draws of lists stand on, on a seat without ListOk. -/
import Derived.Test.YtjogmhicehlboaaEkM
import Derived.Test.YtjogmhicehlboaaZb
import Derived.Test.YtjogmhicehlboaaDaM
