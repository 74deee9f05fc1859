/- b64's contracts. -/
import Derived.Test.YtbipbkancghkfaaDoorWk
import Derived.Test.YtbipbkancghkfaaDoorWl
import Derived.Test.YtbipbkancghkfaaDoorWm
import Derived.Test.YtbipbkancghkfaaDoorWn

