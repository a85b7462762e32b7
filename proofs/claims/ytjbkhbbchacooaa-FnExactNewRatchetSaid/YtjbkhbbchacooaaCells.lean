/- The cells of a block of up to three cells. No program. -/
import Derived.Test.YtjbkhbbchacooaaBbT
namespace Go.Proofs.Ytjbkhbbchacooaa
open Go
theorem cell1_0 (x : Value) : (#[x] : Array Value)[0]? = some x := rfl
theorem cell2_0 (x y : Value) : (#[x, y] : Array Value)[0]? = some x := rfl
theorem cell2_1 (x y : Value) : (#[x, y] : Array Value)[1]? = some y := rfl
theorem cell3_0 (x y z : Value) : (#[x, y, z] : Array Value)[0]? = some x := rfl
theorem cell3_1 (x y z : Value) : (#[x, y, z] : Array Value)[1]? = some y := rfl
theorem cell3_2 (x y z : Value) : (#[x, y, z] : Array Value)[2]? = some z := rfl
theorem cell4_0 (x y z u : Value) : (#[x, y, z, u] : Array Value)[0]? = some x := rfl
theorem cell4_1 (x y z u : Value) : (#[x, y, z, u] : Array Value)[1]? = some y := rfl
theorem cell4_2 (x y z u : Value) : (#[x, y, z, u] : Array Value)[2]? = some z := rfl
theorem cell4_3 (x y z u : Value) : (#[x, y, z, u] : Array Value)[3]? = some u := rfl
theorem cell5_0 (x y z u v : Value) : (#[x, y, z, u, v] : Array Value)[0]? = some x := rfl
theorem cell5_1 (x y z u v : Value) : (#[x, y, z, u, v] : Array Value)[1]? = some y := rfl
theorem cell5_2 (x y z u v : Value) : (#[x, y, z, u, v] : Array Value)[2]? = some z := rfl
theorem cell5_3 (x y z u v : Value) : (#[x, y, z, u, v] : Array Value)[3]? = some u := rfl
theorem cell5_4 (x y z u v : Value) : (#[x, y, z, u, v] : Array Value)[4]? = some v := rfl
end Go.Proofs.Ytjbkhbbchacooaa
