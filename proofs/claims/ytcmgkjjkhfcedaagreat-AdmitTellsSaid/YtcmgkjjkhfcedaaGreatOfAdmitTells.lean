/-
  Proved: for every input, coxswain's law coxswainlaw18.AdmitTells returns true and leaves its arguments as they were. No condition.
-/
import Derived.Test.YtcmgkjjkhfcedaaGreatPk19
