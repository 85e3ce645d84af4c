/- The program's contracts and the laws over them. -/
import Derived.Test.YtdegppifgcbaeaaU5
import Derived.Test.YtdegppifgcbaeaaTB
