/- slices.Sort of texts: the contract of the library, laid at this program: the bodies are compared by the kernel. -/
import Derived.Shelf.Sort.Plain
import Derived.Shelf.Slices.In.SortNone
import Derived.Test.YtmlbcdofogffkabProg
namespace Go.Proofs.Ytmlbcdofogffkab
open Go.Shelf
def sh_lays190_ren : Go.Shelf.Ren := ⟨fun | 190 => 125 | 125 => 117 | 258 => 145 | 128 => 135 | 129 => 136 | 302 => 165 | 303 => 166 | 304 => 167 | 305 => 168 | 306 => 169 | 307 => 170 | 308 => 171 | 309 => 172 | 310 => 173 | 333 => 184 | 329 => 176 | 330 => 177 | 334 => 185 | 335 => 186 | 336 => 187 | 344 => 189 | n => n, fun | 31 => 27 | 9 => 9 | 3 => 3 | 46 => 186 | 0 => 0 | 51 => 208 | 53 => 164 | 4 => 4 | 183 => 223 | 182 => 222 | 131 => 227 | 5 => 5 | 218 => 242 | 222 => 246 | 228 => 254 | 229 => 100 | n => n, fun | n => n⟩
theorem sh_lays190 : Go.Proofs.Lays.n190 Try.prog sh_lays190_ren := {
  mixed := by kernel_rfl
  f125 := Try.func117.trans (congrArg some (by kernel_rfl))
  f128 := Try.func135.trans (congrArg some (by kernel_rfl))
  f129 := Try.func136.trans (congrArg some (by kernel_rfl))
  f190 := Try.func125.trans (congrArg some (by kernel_rfl))
  f258 := Try.func145.trans (congrArg some (by kernel_rfl))
  f302 := Try.func165.trans (congrArg some (by kernel_rfl))
  f303 := Try.func166.trans (congrArg some (by kernel_rfl))
  f304 := Try.func167.trans (congrArg some (by kernel_rfl))
  f305 := Try.func168.trans (congrArg some (by kernel_rfl))
  f306 := Try.func169.trans (congrArg some (by kernel_rfl))
  f307 := Try.func170.trans (congrArg some (by kernel_rfl))
  f308 := Try.func171.trans (congrArg some (by kernel_rfl))
  f309 := Try.func172.trans (congrArg some (by kernel_rfl))
  f310 := Try.func173.trans (congrArg some (by kernel_rfl))
  f329 := Try.func176.trans (congrArg some (by kernel_rfl))
  f330 := Try.func177.trans (congrArg some (by kernel_rfl))
  f333 := Try.func184.trans (congrArg some (by kernel_rfl))
  f334 := Try.func185.trans (congrArg some (by kernel_rfl))
  f335 := Try.func186.trans (congrArg some (by kernel_rfl))
  f336 := Try.func187.trans (congrArg some (by kernel_rfl))
  f344 := Try.func189.trans (congrArg some (by kernel_rfl))
  t0 := Try.underlying0
  a0 := Try.isAgg0
  z0 := Try.sizeOf0
  v0 := Try.zeroValue0
  t3 := Try.underlying3
  a3 := Try.isAgg3
  z3 := Try.sizeOf3
  v3 := Try.zeroValue3
  t4 := Try.underlying4
  a4 := Try.isAgg4
  z4 := Try.sizeOf4
  v4 := Try.zeroValue4
  t5 := Try.underlying5
  a5 := Try.isAgg5
  z5 := Try.sizeOf5
  v5 := Try.zeroValue5
  t9 := Try.underlying9
  a9 := Try.isAgg9
  z9 := Try.sizeOf9
  v9 := Try.zeroValue9
  t31 := Try.underlying27
  a31 := Try.isAgg27
  z31 := Try.sizeOf27
  v31 := Try.zeroValue27
  t46 := Try.underlying186
  a46 := Try.isAgg186
  z46 := Try.sizeOf186
  v46 := Try.zeroValue186
  t51 := Try.underlying208
  a51 := Try.isAgg208
  z51 := Try.sizeOf208
  v51 := Try.zeroValue208
  t53 := Try.underlying164
  a53 := Try.isAgg164
  z53 := Try.sizeOf164
  v53 := Try.zeroValue164
  t131 := Try.underlying227
  a131 := Try.isAgg227
  z131 := Try.sizeOf227
  v131 := Try.zeroValue227
  t182 := Try.underlying222
  a182 := Try.isAgg222
  z182 := Try.sizeOf222
  v182 := Try.zeroValue222
  t183 := Try.underlying223
  a183 := Try.isAgg223
  z183 := Try.sizeOf223
  v183 := Try.zeroValue223
  t218 := Try.underlying242
  a218 := Try.isAgg242
  z218 := Try.sizeOf242
  v218 := Try.zeroValue242
  t222 := Try.underlying246
  a222 := Try.isAgg246
  z222 := Try.sizeOf246
  v222 := Try.zeroValue246
  t228 := Try.underlying254
  a228 := Try.isAgg254
  z228 := Try.sizeOf254
  v228 := Try.zeroValue254
  t229 := Try.underlying100
  a229 := Try.isAgg100
  z229 := Try.sizeOf100
  v229 := Try.zeroValue100 }
open Go.Sort Go.RowKit in
theorem sh_sort_str (blk off cap : Nat) (ss : List (List UInt8)) (w : World) (hH : Holds encStr w blk off ss.toArray) (hblk : blk < w.heap.size) (hsz : ss.length < 4611686018427387904) :
    Calls Try.prog 125 #[.slice (some ⟨blk, off, none⟩) ss.length cap] w fun e w' =>
      e = .returned (.tuple #[]) ∧ ∃ n os, w' = grow (putRow encStr (Sort.ahead w n) blk off (ss.mergeSort fun x y => decide (x ≤ y)).toArray) os := Any.slices_Sort_string sh_lays190 blk off cap ss w hH hblk hsz
open Go.RowKit Go.Sort in
theorem sh_sort_str_none (p : Option Addr) (cap : Nat) (w : World) :
    Calls Try.prog 125 #[.slice p 0 cap] w fun e w' => e = .returned (.tuple #[]) ∧ w' = w := Any.slices_Sort_string_none sh_lays190 p cap w
end Go.Proofs.Ytmlbcdofogffkab
