/- The two laws of the lexer's layer, over Scan as it landed: their walks are in the texts that this one imports. -/
import Derived.Test.YtjfmmnebhmlkeaaDoorLsF
import Derived.Test.YtjfmmnebhmlkeaaDoorLxR
