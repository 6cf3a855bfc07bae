/- WHAT THE WALKS OF LAYER 6's LAWS STAND ON. -/
import Derived.Test.YtekegbnmmjhfiabDRuns
import Derived.Test.YtekegbnmmjhfiabBookIn
