/-
  Stage 21: Blocks; both sides' Run as one.
  Stage 21: the law of Runs.
  Stage 21: copy into a longer piece; the blocks of the identity; flow.Matrix.
  Stage 21: flow.Matrix.
  Stage 21: the reference's Matrix.
-/
import Derived.Test.YthdgpmanijifoaaQbbst00
import Derived.Test.YthdgpmanijifoaaQbbst39
import Derived.Test.YthdgpmanijifoaaQbbst36
import Derived.Test.YthdgpmanijifoaaQbbst29
import Derived.Test.YthdgpmanijifoaaQbbst30
import Derived.Test.YthdgpmanijifoaaQbbst14
import Derived.Laws.AppendOwnNone
set_option maxRecDepth 100000
set_option maxHeartbeats 16000000

