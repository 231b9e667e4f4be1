/- Copies of slices of slices of bytes: listCopy (the program), l06Copy (the model). -/
import Derived.Test.YtdoaikanaodefaaDoorStackCat
import Derived.Test.YtdoaikanaodefaaDoorHashCopy
import Derived.Test.YtdoaikanaodefaaDoorModelCopy
