/-
The shelf has nothing to lay here.
-/
import Derived.Test.YtnloedhcginopaaChecked
