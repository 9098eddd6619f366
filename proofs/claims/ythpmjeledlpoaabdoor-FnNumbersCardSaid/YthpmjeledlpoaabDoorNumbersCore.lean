/-
  The walk of laws.FnNumbers, where what each function answers is known. No other condition.
-/
import Derived.Test.YthpmjeledlpoaabDoorDrawAll
import Derived.Test.YthpmjeledlpoaabDoorDecImpl
namespace Go.Proofs.YthpmjeledlpoaabDoor.Numbers
open Go.RowKit
open Go.Proofs.YthpmjeledlpoaabDoor.Draw (Gives)
set_option linter.unusedVariables false

/-- What is known of the answers. -/
structure Known (zs : List Int) (n : Int) (tail S T H r : ByteArray) (x k y d z : Int) (j : Nat) (is fine : Bool) : Prop where
  dV : Gives 5 zs (.int .i64 n)
  dH : Gives 6 zs (.string tail)
  dR : Gives 15 zs (.string r)
  cV : ∀ w : World, Calls Tryd.prog 7 #[.int .i64 n] w fun e w' => e = .returned (.string S) ∧ Below w.heap.size w w'
  cRV : ∀ w : World, Calls Tryd.prog 8 #[.string (S ++ tail)] w fun e w' => e = .returned (.tuple #[.int .i64 x, .int .i64 k]) ∧ w' = w
  cF : ∀ w : World, Calls Tryd.prog 9 #[.int .i64 n, .int .i64 7] w fun e w' => e = .returned (.string T) ∧ Below w.heap.size w w'
  cRF : ∀ w : World, Calls Tryd.prog 10 #[.string (T ++ tail), .int .i64 7] w fun e w' => e = .returned (.tuple #[.int .i64 y, .bool is]) ∧ w' = w
  cD : ∀ w : World, Lib.TabIs Tryd.prog w "internal/strconv.uint64pow10" .u64 Lib.pow10Tab → Calls Tryd.prog 12 #[.int .i64 n] w fun e w' => e = .returned (.string (Dec.decS n)) ∧ Below w.heap.size w w'
  cRD : ∀ w : World, Calls Tryd.prog 11 #[.string (Dec.decS n)] w fun e w' => e = .returned (.tuple #[.int .i64 d, .bool fine]) ∧ w' = w
  cH : ∀ w : World, Calls Tryd.prog 14 #[.string tail] w fun e w' => e = .returned (.string H) ∧ Below w.heap.size w w'
  cU : ∀ w : World, Calls Tryd.prog 13 #[.string H] w fun e w' => e = .returned (.tuple #[.string tail, .bool true]) ∧ Below w.heap.size w w'
  cRV2 : ∀ w : World, Calls Tryd.prog 8 #[.string r] w fun e w' => e = .returned (.tuple #[.int .i64 z, .int .i64 (j : Int)]) ∧ w' = w
  cV2 : j ≠ 0 → ∀ w : World, Calls Tryd.prog 7 #[.int .i64 z] w fun e w' => e = .returned (.string (r.extract 0 j)) ∧ Below w.heap.size w w'
  sS : S.size ≤ 7
  sT : T.size ≤ 7
  st : tail.size ≤ 40
  sr : r.size ≤ 3000
  jr : j ≤ r.size

set_option maxRecDepth 100000 in
set_option maxHeartbeats 4000000 in
theorem core_a0 (zs : List Int) (n : Int) (tail S T H r : ByteArray) (x k y d z : Int) (j : Nat) (is : Bool) (K : Known zs n tail S T H r x k y d z j is false)
    (w : World) (a : Option Addr) (len cap : Nat) (C : Draw.Code w a len cap zs) (htab : Lib.TabIs Tryd.prog w "internal/strconv.uint64pow10" .u64 Lib.pow10Tab)
    (n0 : n ≤ -1000000000) (eS : S.toList.isEmpty = true) (eT : T.toList.isEmpty = true) (ej : ((j : Int) == 0) = true) :
    Calls Tryd.prog 3 #[.slice a len cap] w fun e w' => e = .returned (.bool true) ∧ Below w.heap.size w w' := by
  have sS := K.sS
  have sT := K.sT
  have st := K.st
  have sr := K.sr
  have jr := K.jr
  have hlen := C.hb
  have HK := Own.hid K
  have HC := Own.hid C
  have HT := Own.hid htab
  clear K C htab
  go_enter Tryd.func3, Tryd.ntmps3
  go_wp2_with fail
  go_in
  go_wp2_with fail
  refine Calls.mono (HK.out.dV _ a len cap HC.out) ?_
  rintro e w1 ⟨rfl, hb⟩
  have HBw1 := Own.hid (hb)
  clear hb
  go_wp2_with fail
  refine Calls.mono (HK.out.dH _ a len cap (HC.out.below HBw1.out)) ?_
  rintro e w2 ⟨rfl, hb⟩
  have HBw2 := Own.hid (HBw1.out.trans (hb.mono HBw1.out.size))
  clear hb HBw1
  go_wp2_with fail
  refine Calls.mono (HK.out.cV _) ?_
  rintro e w3 ⟨rfl, hb⟩
  have HBw3 := Own.hid (HBw2.out.trans (hb.mono HBw2.out.size))
  clear hb HBw2
  go_wp2_with fail
  refine Calls.mono (HK.out.cRV _) ?_
  rintro e w4 ⟨rfl, hw⟩
  obtain rfl : w3 = w4 := hw.symm
  clear hw
  go_wp2_with fail
  refine Calls.mono (HK.out.cF _) ?_
  rintro e w5 ⟨rfl, hb⟩
  have HBw5 := Own.hid (HBw3.out.trans (hb.mono HBw3.out.size))
  clear hb HBw3
  go_wp2_with fail
  refine Calls.mono (HK.out.cRF _) ?_
  rintro e w6 ⟨rfl, hw⟩
  obtain rfl : w5 = w6 := hw.symm
  clear hw
  go_wp2_with fail
  refine Calls.mono (HK.out.cD _ (Dec.tab_below HT.out HBw5.out)) ?_
  rintro e w7 ⟨rfl, hb⟩
  have HBw7 := Own.hid (HBw5.out.trans (hb.mono HBw5.out.size))
  clear hb HBw5
  go_wp2_with fail
  refine Calls.mono (HK.out.cRD _) ?_
  rintro e w8 ⟨rfl, hw⟩
  obtain rfl : w7 = w8 := hw.symm
  clear hw
  go_wp2_with fail
  refine Calls.mono (HK.out.cH _) ?_
  rintro e w9 ⟨rfl, hb⟩
  have HBw9 := Own.hid (HBw7.out.trans (hb.mono HBw7.out.size))
  clear hb HBw7
  go_wp2_with fail
  refine Calls.mono (HK.out.cU _) ?_
  rintro e w10 ⟨rfl, hb⟩
  have HBw10 := Own.hid (HBw9.out.trans (hb.mono HBw9.out.size))
  clear hb HBw9
  go_wp2_with fail
  refine Calls.mono (HK.out.dR _ a len cap (HC.out.below HBw10.out)) ?_
  rintro e w11 ⟨rfl, hb⟩
  have HBw11 := Own.hid (HBw10.out.trans (hb.mono HBw10.out.size))
  clear hb HBw10
  go_wp2_with fail
  refine Calls.mono (HK.out.cRV2 _) ?_
  rintro e w12 ⟨rfl, hw⟩
  obtain rfl : w11 = w12 := hw.symm
  clear hw
  go_wp2
  go_ret
  exact ⟨rfl, HBw11.out⟩

set_option maxRecDepth 100000 in
set_option maxHeartbeats 4000000 in
theorem core_a1 (zs : List Int) (n : Int) (tail S T H r : ByteArray) (x k y d z : Int) (j : Nat) (is : Bool) (K : Known zs n tail S T H r x k y d z j is false)
    (w : World) (a : Option Addr) (len cap : Nat) (C : Draw.Code w a len cap zs) (htab : Lib.TabIs Tryd.prog w "internal/strconv.uint64pow10" .u64 Lib.pow10Tab)
    (n0 : n ≤ -1000000000) (eS : S.toList.isEmpty = true) (eT : T.toList.isEmpty = true) (ej : ((j : Int) == 0) = false) :
    Calls Tryd.prog 3 #[.slice a len cap] w fun e w' => e = .returned (.bool true) ∧ Below w.heap.size w w' := by
  have sS := K.sS
  have sT := K.sT
  have st := K.st
  have sr := K.sr
  have jr := K.jr
  have hlen := C.hb
  have HK := Own.hid K
  have HC := Own.hid C
  have HT := Own.hid htab
  clear K C htab
  go_enter Tryd.func3, Tryd.ntmps3
  go_wp2_with fail
  go_in
  go_wp2_with fail
  refine Calls.mono (HK.out.dV _ a len cap HC.out) ?_
  rintro e w1 ⟨rfl, hb⟩
  have HBw1 := Own.hid (hb)
  clear hb
  go_wp2_with fail
  refine Calls.mono (HK.out.dH _ a len cap (HC.out.below HBw1.out)) ?_
  rintro e w2 ⟨rfl, hb⟩
  have HBw2 := Own.hid (HBw1.out.trans (hb.mono HBw1.out.size))
  clear hb HBw1
  go_wp2_with fail
  refine Calls.mono (HK.out.cV _) ?_
  rintro e w3 ⟨rfl, hb⟩
  have HBw3 := Own.hid (HBw2.out.trans (hb.mono HBw2.out.size))
  clear hb HBw2
  go_wp2_with fail
  refine Calls.mono (HK.out.cRV _) ?_
  rintro e w4 ⟨rfl, hw⟩
  obtain rfl : w3 = w4 := hw.symm
  clear hw
  go_wp2_with fail
  refine Calls.mono (HK.out.cF _) ?_
  rintro e w5 ⟨rfl, hb⟩
  have HBw5 := Own.hid (HBw3.out.trans (hb.mono HBw3.out.size))
  clear hb HBw3
  go_wp2_with fail
  refine Calls.mono (HK.out.cRF _) ?_
  rintro e w6 ⟨rfl, hw⟩
  obtain rfl : w5 = w6 := hw.symm
  clear hw
  go_wp2_with fail
  refine Calls.mono (HK.out.cD _ (Dec.tab_below HT.out HBw5.out)) ?_
  rintro e w7 ⟨rfl, hb⟩
  have HBw7 := Own.hid (HBw5.out.trans (hb.mono HBw5.out.size))
  clear hb HBw5
  go_wp2_with fail
  refine Calls.mono (HK.out.cRD _) ?_
  rintro e w8 ⟨rfl, hw⟩
  obtain rfl : w7 = w8 := hw.symm
  clear hw
  go_wp2_with fail
  refine Calls.mono (HK.out.cH _) ?_
  rintro e w9 ⟨rfl, hb⟩
  have HBw9 := Own.hid (HBw7.out.trans (hb.mono HBw7.out.size))
  clear hb HBw7
  go_wp2_with fail
  refine Calls.mono (HK.out.cU _) ?_
  rintro e w10 ⟨rfl, hb⟩
  have HBw10 := Own.hid (HBw9.out.trans (hb.mono HBw9.out.size))
  clear hb HBw9
  go_wp2_with fail
  refine Calls.mono (HK.out.dR _ a len cap (HC.out.below HBw10.out)) ?_
  rintro e w11 ⟨rfl, hb⟩
  have HBw11 := Own.hid (HBw10.out.trans (hb.mono HBw10.out.size))
  clear hb HBw10
  go_wp2_with fail
  refine Calls.mono (HK.out.cRV2 _) ?_
  rintro e w12 ⟨rfl, hw⟩
  obtain rfl : w11 = w12 := hw.symm
  clear hw
  go_wp2_with fail
  refine Calls.mono (HK.out.cV2 (by simpa using ej) _) ?_
  rintro e w13 ⟨rfl, hb⟩
  have HBw13 := Own.hid (HBw11.out.trans (hb.mono HBw11.out.size))
  clear hb HBw11
  go_wp2_with fail
  refine Calls.mono (HK.out.dR _ a len cap (HC.out.below HBw13.out)) ?_
  rintro e w14 ⟨rfl, hb⟩
  have HBw14 := Own.hid (HBw13.out.trans (hb.mono HBw13.out.size))
  clear hb HBw13
  go_wp2
  go_ret
  exact ⟨rfl, HBw14.out⟩

set_option maxRecDepth 100000 in
set_option maxHeartbeats 4000000 in
theorem core_b0 (zs : List Int) (n : Int) (tail S T H r : ByteArray) (x k y d z : Int) (j : Nat) (is : Bool) (K : Known zs n tail S T H r x k y n z j is true)
    (w : World) (a : Option Addr) (len cap : Nat) (C : Draw.Code w a len cap zs) (htab : Lib.TabIs Tryd.prog w "internal/strconv.uint64pow10" .u64 Lib.pow10Tab)
    (n0 : -1000000000 < n) (n1 : n < 0) (eS : S.toList.isEmpty = true) (eT : T.toList.isEmpty = true) (ej : ((j : Int) == 0) = true) :
    Calls Tryd.prog 3 #[.slice a len cap] w fun e w' => e = .returned (.bool true) ∧ Below w.heap.size w w' := by
  have sS := K.sS
  have sT := K.sT
  have st := K.st
  have sr := K.sr
  have jr := K.jr
  have hlen := C.hb
  have HK := Own.hid K
  have HC := Own.hid C
  have HT := Own.hid htab
  clear K C htab
  go_enter Tryd.func3, Tryd.ntmps3
  go_wp2_with fail
  go_in
  go_wp2_with fail
  refine Calls.mono (HK.out.dV _ a len cap HC.out) ?_
  rintro e w1 ⟨rfl, hb⟩
  have HBw1 := Own.hid (hb)
  clear hb
  go_wp2_with fail
  refine Calls.mono (HK.out.dH _ a len cap (HC.out.below HBw1.out)) ?_
  rintro e w2 ⟨rfl, hb⟩
  have HBw2 := Own.hid (HBw1.out.trans (hb.mono HBw1.out.size))
  clear hb HBw1
  go_wp2_with fail
  refine Calls.mono (HK.out.cV _) ?_
  rintro e w3 ⟨rfl, hb⟩
  have HBw3 := Own.hid (HBw2.out.trans (hb.mono HBw2.out.size))
  clear hb HBw2
  go_wp2_with fail
  refine Calls.mono (HK.out.cRV _) ?_
  rintro e w4 ⟨rfl, hw⟩
  obtain rfl : w3 = w4 := hw.symm
  clear hw
  go_wp2_with fail
  refine Calls.mono (HK.out.cF _) ?_
  rintro e w5 ⟨rfl, hb⟩
  have HBw5 := Own.hid (HBw3.out.trans (hb.mono HBw3.out.size))
  clear hb HBw3
  go_wp2_with fail
  refine Calls.mono (HK.out.cRF _) ?_
  rintro e w6 ⟨rfl, hw⟩
  obtain rfl : w5 = w6 := hw.symm
  clear hw
  go_wp2_with fail
  refine Calls.mono (HK.out.cD _ (Dec.tab_below HT.out HBw5.out)) ?_
  rintro e w7 ⟨rfl, hb⟩
  have HBw7 := Own.hid (HBw5.out.trans (hb.mono HBw5.out.size))
  clear hb HBw5
  go_wp2_with fail
  refine Calls.mono (HK.out.cRD _) ?_
  rintro e w8 ⟨rfl, hw⟩
  obtain rfl : w7 = w8 := hw.symm
  clear hw
  go_wp2_with fail
  refine Calls.mono (HK.out.cH _) ?_
  rintro e w9 ⟨rfl, hb⟩
  have HBw9 := Own.hid (HBw7.out.trans (hb.mono HBw7.out.size))
  clear hb HBw7
  go_wp2_with fail
  refine Calls.mono (HK.out.cU _) ?_
  rintro e w10 ⟨rfl, hb⟩
  have HBw10 := Own.hid (HBw9.out.trans (hb.mono HBw9.out.size))
  clear hb HBw9
  go_wp2_with fail
  refine Calls.mono (HK.out.dR _ a len cap (HC.out.below HBw10.out)) ?_
  rintro e w11 ⟨rfl, hb⟩
  have HBw11 := Own.hid (HBw10.out.trans (hb.mono HBw10.out.size))
  clear hb HBw10
  go_wp2_with fail
  refine Calls.mono (HK.out.cRV2 _) ?_
  rintro e w12 ⟨rfl, hw⟩
  obtain rfl : w11 = w12 := hw.symm
  clear hw
  go_wp2
  go_ret
  exact ⟨rfl, HBw11.out⟩

set_option maxRecDepth 100000 in
set_option maxHeartbeats 4000000 in
theorem core_b1 (zs : List Int) (n : Int) (tail S T H r : ByteArray) (x k y d z : Int) (j : Nat) (is : Bool) (K : Known zs n tail S T H r x k y n z j is true)
    (w : World) (a : Option Addr) (len cap : Nat) (C : Draw.Code w a len cap zs) (htab : Lib.TabIs Tryd.prog w "internal/strconv.uint64pow10" .u64 Lib.pow10Tab)
    (n0 : -1000000000 < n) (n1 : n < 0) (eS : S.toList.isEmpty = true) (eT : T.toList.isEmpty = true) (ej : ((j : Int) == 0) = false) :
    Calls Tryd.prog 3 #[.slice a len cap] w fun e w' => e = .returned (.bool true) ∧ Below w.heap.size w w' := by
  have sS := K.sS
  have sT := K.sT
  have st := K.st
  have sr := K.sr
  have jr := K.jr
  have hlen := C.hb
  have HK := Own.hid K
  have HC := Own.hid C
  have HT := Own.hid htab
  clear K C htab
  go_enter Tryd.func3, Tryd.ntmps3
  go_wp2_with fail
  go_in
  go_wp2_with fail
  refine Calls.mono (HK.out.dV _ a len cap HC.out) ?_
  rintro e w1 ⟨rfl, hb⟩
  have HBw1 := Own.hid (hb)
  clear hb
  go_wp2_with fail
  refine Calls.mono (HK.out.dH _ a len cap (HC.out.below HBw1.out)) ?_
  rintro e w2 ⟨rfl, hb⟩
  have HBw2 := Own.hid (HBw1.out.trans (hb.mono HBw1.out.size))
  clear hb HBw1
  go_wp2_with fail
  refine Calls.mono (HK.out.cV _) ?_
  rintro e w3 ⟨rfl, hb⟩
  have HBw3 := Own.hid (HBw2.out.trans (hb.mono HBw2.out.size))
  clear hb HBw2
  go_wp2_with fail
  refine Calls.mono (HK.out.cRV _) ?_
  rintro e w4 ⟨rfl, hw⟩
  obtain rfl : w3 = w4 := hw.symm
  clear hw
  go_wp2_with fail
  refine Calls.mono (HK.out.cF _) ?_
  rintro e w5 ⟨rfl, hb⟩
  have HBw5 := Own.hid (HBw3.out.trans (hb.mono HBw3.out.size))
  clear hb HBw3
  go_wp2_with fail
  refine Calls.mono (HK.out.cRF _) ?_
  rintro e w6 ⟨rfl, hw⟩
  obtain rfl : w5 = w6 := hw.symm
  clear hw
  go_wp2_with fail
  refine Calls.mono (HK.out.cD _ (Dec.tab_below HT.out HBw5.out)) ?_
  rintro e w7 ⟨rfl, hb⟩
  have HBw7 := Own.hid (HBw5.out.trans (hb.mono HBw5.out.size))
  clear hb HBw5
  go_wp2_with fail
  refine Calls.mono (HK.out.cRD _) ?_
  rintro e w8 ⟨rfl, hw⟩
  obtain rfl : w7 = w8 := hw.symm
  clear hw
  go_wp2_with fail
  refine Calls.mono (HK.out.cH _) ?_
  rintro e w9 ⟨rfl, hb⟩
  have HBw9 := Own.hid (HBw7.out.trans (hb.mono HBw7.out.size))
  clear hb HBw7
  go_wp2_with fail
  refine Calls.mono (HK.out.cU _) ?_
  rintro e w10 ⟨rfl, hb⟩
  have HBw10 := Own.hid (HBw9.out.trans (hb.mono HBw9.out.size))
  clear hb HBw9
  go_wp2_with fail
  refine Calls.mono (HK.out.dR _ a len cap (HC.out.below HBw10.out)) ?_
  rintro e w11 ⟨rfl, hb⟩
  have HBw11 := Own.hid (HBw10.out.trans (hb.mono HBw10.out.size))
  clear hb HBw10
  go_wp2_with fail
  refine Calls.mono (HK.out.cRV2 _) ?_
  rintro e w12 ⟨rfl, hw⟩
  obtain rfl : w11 = w12 := hw.symm
  clear hw
  go_wp2_with fail
  refine Calls.mono (HK.out.cV2 (by simpa using ej) _) ?_
  rintro e w13 ⟨rfl, hb⟩
  have HBw13 := Own.hid (HBw11.out.trans (hb.mono HBw11.out.size))
  clear hb HBw11
  go_wp2_with fail
  refine Calls.mono (HK.out.dR _ a len cap (HC.out.below HBw13.out)) ?_
  rintro e w14 ⟨rfl, hb⟩
  have HBw14 := Own.hid (HBw13.out.trans (hb.mono HBw13.out.size))
  clear hb HBw13
  go_wp2
  go_ret
  exact ⟨rfl, HBw14.out⟩

set_option maxRecDepth 100000 in
set_option maxHeartbeats 4000000 in
theorem core_c0 (zs : List Int) (n : Int) (tail S T H r : ByteArray) (x k y d z : Int) (j : Nat) (is : Bool) (K : Known zs n tail S T H r n (S.size : Int) n n z j true true)
    (w : World) (a : Option Addr) (len cap : Nat) (C : Draw.Code w a len cap zs) (htab : Lib.TabIs Tryd.prog w "internal/strconv.uint64pow10" .u64 Lib.pow10Tab)
    (n0 : 0 ≤ n) (n1 : n < 1000000000) (eS : S.toList.isEmpty = false) (eT : T.toList.isEmpty = false) (et : ((T.size : Int) != 7) = false) (ej : ((j : Int) == 0) = true) :
    Calls Tryd.prog 3 #[.slice a len cap] w fun e w' => e = .returned (.bool true) ∧ Below w.heap.size w w' := by
  have sS := K.sS
  have sT := K.sT
  have st := K.st
  have sr := K.sr
  have jr := K.jr
  have hlen := C.hb
  have HK := Own.hid K
  have HC := Own.hid C
  have HT := Own.hid htab
  clear K C htab
  go_enter Tryd.func3, Tryd.ntmps3
  go_wp2_with fail
  go_in
  go_wp2_with fail
  refine Calls.mono (HK.out.dV _ a len cap HC.out) ?_
  rintro e w1 ⟨rfl, hb⟩
  have HBw1 := Own.hid (hb)
  clear hb
  go_wp2_with fail
  refine Calls.mono (HK.out.dH _ a len cap (HC.out.below HBw1.out)) ?_
  rintro e w2 ⟨rfl, hb⟩
  have HBw2 := Own.hid (HBw1.out.trans (hb.mono HBw1.out.size))
  clear hb HBw1
  go_wp2_with fail
  refine Calls.mono (HK.out.cV _) ?_
  rintro e w3 ⟨rfl, hb⟩
  have HBw3 := Own.hid (HBw2.out.trans (hb.mono HBw2.out.size))
  clear hb HBw2
  go_wp2_with fail
  refine Calls.mono (HK.out.cRV _) ?_
  rintro e w4 ⟨rfl, hw⟩
  obtain rfl : w3 = w4 := hw.symm
  clear hw
  go_wp2_with fail
  refine Calls.mono (HK.out.cF _) ?_
  rintro e w5 ⟨rfl, hb⟩
  have HBw5 := Own.hid (HBw3.out.trans (hb.mono HBw3.out.size))
  clear hb HBw3
  go_wp2_with fail
  refine Calls.mono (HK.out.cRF _) ?_
  rintro e w6 ⟨rfl, hw⟩
  obtain rfl : w5 = w6 := hw.symm
  clear hw
  go_wp2_with fail
  refine Calls.mono (HK.out.cD _ (Dec.tab_below HT.out HBw5.out)) ?_
  rintro e w7 ⟨rfl, hb⟩
  have HBw7 := Own.hid (HBw5.out.trans (hb.mono HBw5.out.size))
  clear hb HBw5
  go_wp2_with fail
  refine Calls.mono (HK.out.cRD _) ?_
  rintro e w8 ⟨rfl, hw⟩
  obtain rfl : w7 = w8 := hw.symm
  clear hw
  go_wp2_with fail
  refine Calls.mono (HK.out.cH _) ?_
  rintro e w9 ⟨rfl, hb⟩
  have HBw9 := Own.hid (HBw7.out.trans (hb.mono HBw7.out.size))
  clear hb HBw7
  go_wp2_with fail
  refine Calls.mono (HK.out.cU _) ?_
  rintro e w10 ⟨rfl, hb⟩
  have HBw10 := Own.hid (HBw9.out.trans (hb.mono HBw9.out.size))
  clear hb HBw9
  go_wp2_with fail
  refine Calls.mono (HK.out.dR _ a len cap (HC.out.below HBw10.out)) ?_
  rintro e w11 ⟨rfl, hb⟩
  have HBw11 := Own.hid (HBw10.out.trans (hb.mono HBw10.out.size))
  clear hb HBw10
  go_wp2_with fail
  refine Calls.mono (HK.out.cRV2 _) ?_
  rintro e w12 ⟨rfl, hw⟩
  obtain rfl : w11 = w12 := hw.symm
  clear hw
  go_wp2
  go_ret
  exact ⟨rfl, HBw11.out⟩

set_option maxRecDepth 100000 in
set_option maxHeartbeats 4000000 in
theorem core_c1 (zs : List Int) (n : Int) (tail S T H r : ByteArray) (x k y d z : Int) (j : Nat) (is : Bool) (K : Known zs n tail S T H r n (S.size : Int) n n z j true true)
    (w : World) (a : Option Addr) (len cap : Nat) (C : Draw.Code w a len cap zs) (htab : Lib.TabIs Tryd.prog w "internal/strconv.uint64pow10" .u64 Lib.pow10Tab)
    (n0 : 0 ≤ n) (n1 : n < 1000000000) (eS : S.toList.isEmpty = false) (eT : T.toList.isEmpty = false) (et : ((T.size : Int) != 7) = false) (ej : ((j : Int) == 0) = false) :
    Calls Tryd.prog 3 #[.slice a len cap] w fun e w' => e = .returned (.bool true) ∧ Below w.heap.size w w' := by
  have sS := K.sS
  have sT := K.sT
  have st := K.st
  have sr := K.sr
  have jr := K.jr
  have hlen := C.hb
  have HK := Own.hid K
  have HC := Own.hid C
  have HT := Own.hid htab
  clear K C htab
  go_enter Tryd.func3, Tryd.ntmps3
  go_wp2_with fail
  go_in
  go_wp2_with fail
  refine Calls.mono (HK.out.dV _ a len cap HC.out) ?_
  rintro e w1 ⟨rfl, hb⟩
  have HBw1 := Own.hid (hb)
  clear hb
  go_wp2_with fail
  refine Calls.mono (HK.out.dH _ a len cap (HC.out.below HBw1.out)) ?_
  rintro e w2 ⟨rfl, hb⟩
  have HBw2 := Own.hid (HBw1.out.trans (hb.mono HBw1.out.size))
  clear hb HBw1
  go_wp2_with fail
  refine Calls.mono (HK.out.cV _) ?_
  rintro e w3 ⟨rfl, hb⟩
  have HBw3 := Own.hid (HBw2.out.trans (hb.mono HBw2.out.size))
  clear hb HBw2
  go_wp2_with fail
  refine Calls.mono (HK.out.cRV _) ?_
  rintro e w4 ⟨rfl, hw⟩
  obtain rfl : w3 = w4 := hw.symm
  clear hw
  go_wp2_with fail
  refine Calls.mono (HK.out.cF _) ?_
  rintro e w5 ⟨rfl, hb⟩
  have HBw5 := Own.hid (HBw3.out.trans (hb.mono HBw3.out.size))
  clear hb HBw3
  go_wp2_with fail
  refine Calls.mono (HK.out.cRF _) ?_
  rintro e w6 ⟨rfl, hw⟩
  obtain rfl : w5 = w6 := hw.symm
  clear hw
  go_wp2_with fail
  refine Calls.mono (HK.out.cD _ (Dec.tab_below HT.out HBw5.out)) ?_
  rintro e w7 ⟨rfl, hb⟩
  have HBw7 := Own.hid (HBw5.out.trans (hb.mono HBw5.out.size))
  clear hb HBw5
  go_wp2_with fail
  refine Calls.mono (HK.out.cRD _) ?_
  rintro e w8 ⟨rfl, hw⟩
  obtain rfl : w7 = w8 := hw.symm
  clear hw
  go_wp2_with fail
  refine Calls.mono (HK.out.cH _) ?_
  rintro e w9 ⟨rfl, hb⟩
  have HBw9 := Own.hid (HBw7.out.trans (hb.mono HBw7.out.size))
  clear hb HBw7
  go_wp2_with fail
  refine Calls.mono (HK.out.cU _) ?_
  rintro e w10 ⟨rfl, hb⟩
  have HBw10 := Own.hid (HBw9.out.trans (hb.mono HBw9.out.size))
  clear hb HBw9
  go_wp2_with fail
  refine Calls.mono (HK.out.dR _ a len cap (HC.out.below HBw10.out)) ?_
  rintro e w11 ⟨rfl, hb⟩
  have HBw11 := Own.hid (HBw10.out.trans (hb.mono HBw10.out.size))
  clear hb HBw10
  go_wp2_with fail
  refine Calls.mono (HK.out.cRV2 _) ?_
  rintro e w12 ⟨rfl, hw⟩
  obtain rfl : w11 = w12 := hw.symm
  clear hw
  go_wp2_with fail
  refine Calls.mono (HK.out.cV2 (by simpa using ej) _) ?_
  rintro e w13 ⟨rfl, hb⟩
  have HBw13 := Own.hid (HBw11.out.trans (hb.mono HBw11.out.size))
  clear hb HBw11
  go_wp2_with fail
  refine Calls.mono (HK.out.dR _ a len cap (HC.out.below HBw13.out)) ?_
  rintro e w14 ⟨rfl, hb⟩
  have HBw14 := Own.hid (HBw13.out.trans (hb.mono HBw13.out.size))
  clear hb HBw13
  go_wp2
  go_ret
  exact ⟨rfl, HBw14.out⟩

set_option maxRecDepth 100000 in
set_option maxHeartbeats 4000000 in
theorem core_d0 (zs : List Int) (n : Int) (tail S T H r : ByteArray) (x k y d z : Int) (j : Nat) (is : Bool) (K : Known zs n tail S T H r n (S.size : Int) n d z j true false)
    (w : World) (a : Option Addr) (len cap : Nat) (C : Draw.Code w a len cap zs) (htab : Lib.TabIs Tryd.prog w "internal/strconv.uint64pow10" .u64 Lib.pow10Tab)
    (n0 : 1000000000 ≤ n) (n1 : n ≤ 562949953421311) (eS : S.toList.isEmpty = false) (eT : T.toList.isEmpty = false) (et : ((T.size : Int) != 7) = false) (ej : ((j : Int) == 0) = true) :
    Calls Tryd.prog 3 #[.slice a len cap] w fun e w' => e = .returned (.bool true) ∧ Below w.heap.size w w' := by
  have sS := K.sS
  have sT := K.sT
  have st := K.st
  have sr := K.sr
  have jr := K.jr
  have hlen := C.hb
  have HK := Own.hid K
  have HC := Own.hid C
  have HT := Own.hid htab
  clear K C htab
  go_enter Tryd.func3, Tryd.ntmps3
  go_wp2_with fail
  go_in
  go_wp2_with fail
  refine Calls.mono (HK.out.dV _ a len cap HC.out) ?_
  rintro e w1 ⟨rfl, hb⟩
  have HBw1 := Own.hid (hb)
  clear hb
  go_wp2_with fail
  refine Calls.mono (HK.out.dH _ a len cap (HC.out.below HBw1.out)) ?_
  rintro e w2 ⟨rfl, hb⟩
  have HBw2 := Own.hid (HBw1.out.trans (hb.mono HBw1.out.size))
  clear hb HBw1
  go_wp2_with fail
  refine Calls.mono (HK.out.cV _) ?_
  rintro e w3 ⟨rfl, hb⟩
  have HBw3 := Own.hid (HBw2.out.trans (hb.mono HBw2.out.size))
  clear hb HBw2
  go_wp2_with fail
  refine Calls.mono (HK.out.cRV _) ?_
  rintro e w4 ⟨rfl, hw⟩
  obtain rfl : w3 = w4 := hw.symm
  clear hw
  go_wp2_with fail
  refine Calls.mono (HK.out.cF _) ?_
  rintro e w5 ⟨rfl, hb⟩
  have HBw5 := Own.hid (HBw3.out.trans (hb.mono HBw3.out.size))
  clear hb HBw3
  go_wp2_with fail
  refine Calls.mono (HK.out.cRF _) ?_
  rintro e w6 ⟨rfl, hw⟩
  obtain rfl : w5 = w6 := hw.symm
  clear hw
  go_wp2_with fail
  refine Calls.mono (HK.out.cD _ (Dec.tab_below HT.out HBw5.out)) ?_
  rintro e w7 ⟨rfl, hb⟩
  have HBw7 := Own.hid (HBw5.out.trans (hb.mono HBw5.out.size))
  clear hb HBw5
  go_wp2_with fail
  refine Calls.mono (HK.out.cRD _) ?_
  rintro e w8 ⟨rfl, hw⟩
  obtain rfl : w7 = w8 := hw.symm
  clear hw
  go_wp2_with fail
  refine Calls.mono (HK.out.cH _) ?_
  rintro e w9 ⟨rfl, hb⟩
  have HBw9 := Own.hid (HBw7.out.trans (hb.mono HBw7.out.size))
  clear hb HBw7
  go_wp2_with fail
  refine Calls.mono (HK.out.cU _) ?_
  rintro e w10 ⟨rfl, hb⟩
  have HBw10 := Own.hid (HBw9.out.trans (hb.mono HBw9.out.size))
  clear hb HBw9
  go_wp2_with fail
  refine Calls.mono (HK.out.dR _ a len cap (HC.out.below HBw10.out)) ?_
  rintro e w11 ⟨rfl, hb⟩
  have HBw11 := Own.hid (HBw10.out.trans (hb.mono HBw10.out.size))
  clear hb HBw10
  go_wp2_with fail
  refine Calls.mono (HK.out.cRV2 _) ?_
  rintro e w12 ⟨rfl, hw⟩
  obtain rfl : w11 = w12 := hw.symm
  clear hw
  go_wp2
  go_ret
  exact ⟨rfl, HBw11.out⟩

set_option maxRecDepth 100000 in
set_option maxHeartbeats 4000000 in
theorem core_d1 (zs : List Int) (n : Int) (tail S T H r : ByteArray) (x k y d z : Int) (j : Nat) (is : Bool) (K : Known zs n tail S T H r n (S.size : Int) n d z j true false)
    (w : World) (a : Option Addr) (len cap : Nat) (C : Draw.Code w a len cap zs) (htab : Lib.TabIs Tryd.prog w "internal/strconv.uint64pow10" .u64 Lib.pow10Tab)
    (n0 : 1000000000 ≤ n) (n1 : n ≤ 562949953421311) (eS : S.toList.isEmpty = false) (eT : T.toList.isEmpty = false) (et : ((T.size : Int) != 7) = false) (ej : ((j : Int) == 0) = false) :
    Calls Tryd.prog 3 #[.slice a len cap] w fun e w' => e = .returned (.bool true) ∧ Below w.heap.size w w' := by
  have sS := K.sS
  have sT := K.sT
  have st := K.st
  have sr := K.sr
  have jr := K.jr
  have hlen := C.hb
  have HK := Own.hid K
  have HC := Own.hid C
  have HT := Own.hid htab
  clear K C htab
  go_enter Tryd.func3, Tryd.ntmps3
  go_wp2_with fail
  go_in
  go_wp2_with fail
  refine Calls.mono (HK.out.dV _ a len cap HC.out) ?_
  rintro e w1 ⟨rfl, hb⟩
  have HBw1 := Own.hid (hb)
  clear hb
  go_wp2_with fail
  refine Calls.mono (HK.out.dH _ a len cap (HC.out.below HBw1.out)) ?_
  rintro e w2 ⟨rfl, hb⟩
  have HBw2 := Own.hid (HBw1.out.trans (hb.mono HBw1.out.size))
  clear hb HBw1
  go_wp2_with fail
  refine Calls.mono (HK.out.cV _) ?_
  rintro e w3 ⟨rfl, hb⟩
  have HBw3 := Own.hid (HBw2.out.trans (hb.mono HBw2.out.size))
  clear hb HBw2
  go_wp2_with fail
  refine Calls.mono (HK.out.cRV _) ?_
  rintro e w4 ⟨rfl, hw⟩
  obtain rfl : w3 = w4 := hw.symm
  clear hw
  go_wp2_with fail
  refine Calls.mono (HK.out.cF _) ?_
  rintro e w5 ⟨rfl, hb⟩
  have HBw5 := Own.hid (HBw3.out.trans (hb.mono HBw3.out.size))
  clear hb HBw3
  go_wp2_with fail
  refine Calls.mono (HK.out.cRF _) ?_
  rintro e w6 ⟨rfl, hw⟩
  obtain rfl : w5 = w6 := hw.symm
  clear hw
  go_wp2_with fail
  refine Calls.mono (HK.out.cD _ (Dec.tab_below HT.out HBw5.out)) ?_
  rintro e w7 ⟨rfl, hb⟩
  have HBw7 := Own.hid (HBw5.out.trans (hb.mono HBw5.out.size))
  clear hb HBw5
  go_wp2_with fail
  refine Calls.mono (HK.out.cRD _) ?_
  rintro e w8 ⟨rfl, hw⟩
  obtain rfl : w7 = w8 := hw.symm
  clear hw
  go_wp2_with fail
  refine Calls.mono (HK.out.cH _) ?_
  rintro e w9 ⟨rfl, hb⟩
  have HBw9 := Own.hid (HBw7.out.trans (hb.mono HBw7.out.size))
  clear hb HBw7
  go_wp2_with fail
  refine Calls.mono (HK.out.cU _) ?_
  rintro e w10 ⟨rfl, hb⟩
  have HBw10 := Own.hid (HBw9.out.trans (hb.mono HBw9.out.size))
  clear hb HBw9
  go_wp2_with fail
  refine Calls.mono (HK.out.dR _ a len cap (HC.out.below HBw10.out)) ?_
  rintro e w11 ⟨rfl, hb⟩
  have HBw11 := Own.hid (HBw10.out.trans (hb.mono HBw10.out.size))
  clear hb HBw10
  go_wp2_with fail
  refine Calls.mono (HK.out.cRV2 _) ?_
  rintro e w12 ⟨rfl, hw⟩
  obtain rfl : w11 = w12 := hw.symm
  clear hw
  go_wp2_with fail
  refine Calls.mono (HK.out.cV2 (by simpa using ej) _) ?_
  rintro e w13 ⟨rfl, hb⟩
  have HBw13 := Own.hid (HBw11.out.trans (hb.mono HBw11.out.size))
  clear hb HBw11
  go_wp2_with fail
  refine Calls.mono (HK.out.dR _ a len cap (HC.out.below HBw13.out)) ?_
  rintro e w14 ⟨rfl, hb⟩
  have HBw14 := Own.hid (HBw13.out.trans (hb.mono HBw13.out.size))
  clear hb HBw13
  go_wp2
  go_ret
  exact ⟨rfl, HBw14.out⟩

set_option maxRecDepth 100000 in
set_option maxHeartbeats 4000000 in
theorem core_e0 (zs : List Int) (n : Int) (tail S T H r : ByteArray) (x k y d z : Int) (j : Nat) (is : Bool) (K : Known zs n tail S T H r x k n d z j true false)
    (w : World) (a : Option Addr) (len cap : Nat) (C : Draw.Code w a len cap zs) (htab : Lib.TabIs Tryd.prog w "internal/strconv.uint64pow10" .u64 Lib.pow10Tab)
    (n0 : 562949953421311 < n) (n1 : n < 72057594037927936) (eS : S.toList.isEmpty = true) (eT : T.toList.isEmpty = false) (et : ((T.size : Int) != 7) = false) (ej : ((j : Int) == 0) = true) :
    Calls Tryd.prog 3 #[.slice a len cap] w fun e w' => e = .returned (.bool true) ∧ Below w.heap.size w w' := by
  have sS := K.sS
  have sT := K.sT
  have st := K.st
  have sr := K.sr
  have jr := K.jr
  have hlen := C.hb
  have HK := Own.hid K
  have HC := Own.hid C
  have HT := Own.hid htab
  clear K C htab
  go_enter Tryd.func3, Tryd.ntmps3
  go_wp2_with fail
  go_in
  go_wp2_with fail
  refine Calls.mono (HK.out.dV _ a len cap HC.out) ?_
  rintro e w1 ⟨rfl, hb⟩
  have HBw1 := Own.hid (hb)
  clear hb
  go_wp2_with fail
  refine Calls.mono (HK.out.dH _ a len cap (HC.out.below HBw1.out)) ?_
  rintro e w2 ⟨rfl, hb⟩
  have HBw2 := Own.hid (HBw1.out.trans (hb.mono HBw1.out.size))
  clear hb HBw1
  go_wp2_with fail
  refine Calls.mono (HK.out.cV _) ?_
  rintro e w3 ⟨rfl, hb⟩
  have HBw3 := Own.hid (HBw2.out.trans (hb.mono HBw2.out.size))
  clear hb HBw2
  go_wp2_with fail
  refine Calls.mono (HK.out.cRV _) ?_
  rintro e w4 ⟨rfl, hw⟩
  obtain rfl : w3 = w4 := hw.symm
  clear hw
  go_wp2_with fail
  refine Calls.mono (HK.out.cF _) ?_
  rintro e w5 ⟨rfl, hb⟩
  have HBw5 := Own.hid (HBw3.out.trans (hb.mono HBw3.out.size))
  clear hb HBw3
  go_wp2_with fail
  refine Calls.mono (HK.out.cRF _) ?_
  rintro e w6 ⟨rfl, hw⟩
  obtain rfl : w5 = w6 := hw.symm
  clear hw
  go_wp2_with fail
  refine Calls.mono (HK.out.cD _ (Dec.tab_below HT.out HBw5.out)) ?_
  rintro e w7 ⟨rfl, hb⟩
  have HBw7 := Own.hid (HBw5.out.trans (hb.mono HBw5.out.size))
  clear hb HBw5
  go_wp2_with fail
  refine Calls.mono (HK.out.cRD _) ?_
  rintro e w8 ⟨rfl, hw⟩
  obtain rfl : w7 = w8 := hw.symm
  clear hw
  go_wp2_with fail
  refine Calls.mono (HK.out.cH _) ?_
  rintro e w9 ⟨rfl, hb⟩
  have HBw9 := Own.hid (HBw7.out.trans (hb.mono HBw7.out.size))
  clear hb HBw7
  go_wp2_with fail
  refine Calls.mono (HK.out.cU _) ?_
  rintro e w10 ⟨rfl, hb⟩
  have HBw10 := Own.hid (HBw9.out.trans (hb.mono HBw9.out.size))
  clear hb HBw9
  go_wp2_with fail
  refine Calls.mono (HK.out.dR _ a len cap (HC.out.below HBw10.out)) ?_
  rintro e w11 ⟨rfl, hb⟩
  have HBw11 := Own.hid (HBw10.out.trans (hb.mono HBw10.out.size))
  clear hb HBw10
  go_wp2_with fail
  refine Calls.mono (HK.out.cRV2 _) ?_
  rintro e w12 ⟨rfl, hw⟩
  obtain rfl : w11 = w12 := hw.symm
  clear hw
  go_wp2
  go_ret
  exact ⟨rfl, HBw11.out⟩

set_option maxRecDepth 100000 in
set_option maxHeartbeats 4000000 in
theorem core_e1 (zs : List Int) (n : Int) (tail S T H r : ByteArray) (x k y d z : Int) (j : Nat) (is : Bool) (K : Known zs n tail S T H r x k n d z j true false)
    (w : World) (a : Option Addr) (len cap : Nat) (C : Draw.Code w a len cap zs) (htab : Lib.TabIs Tryd.prog w "internal/strconv.uint64pow10" .u64 Lib.pow10Tab)
    (n0 : 562949953421311 < n) (n1 : n < 72057594037927936) (eS : S.toList.isEmpty = true) (eT : T.toList.isEmpty = false) (et : ((T.size : Int) != 7) = false) (ej : ((j : Int) == 0) = false) :
    Calls Tryd.prog 3 #[.slice a len cap] w fun e w' => e = .returned (.bool true) ∧ Below w.heap.size w w' := by
  have sS := K.sS
  have sT := K.sT
  have st := K.st
  have sr := K.sr
  have jr := K.jr
  have hlen := C.hb
  have HK := Own.hid K
  have HC := Own.hid C
  have HT := Own.hid htab
  clear K C htab
  go_enter Tryd.func3, Tryd.ntmps3
  go_wp2_with fail
  go_in
  go_wp2_with fail
  refine Calls.mono (HK.out.dV _ a len cap HC.out) ?_
  rintro e w1 ⟨rfl, hb⟩
  have HBw1 := Own.hid (hb)
  clear hb
  go_wp2_with fail
  refine Calls.mono (HK.out.dH _ a len cap (HC.out.below HBw1.out)) ?_
  rintro e w2 ⟨rfl, hb⟩
  have HBw2 := Own.hid (HBw1.out.trans (hb.mono HBw1.out.size))
  clear hb HBw1
  go_wp2_with fail
  refine Calls.mono (HK.out.cV _) ?_
  rintro e w3 ⟨rfl, hb⟩
  have HBw3 := Own.hid (HBw2.out.trans (hb.mono HBw2.out.size))
  clear hb HBw2
  go_wp2_with fail
  refine Calls.mono (HK.out.cRV _) ?_
  rintro e w4 ⟨rfl, hw⟩
  obtain rfl : w3 = w4 := hw.symm
  clear hw
  go_wp2_with fail
  refine Calls.mono (HK.out.cF _) ?_
  rintro e w5 ⟨rfl, hb⟩
  have HBw5 := Own.hid (HBw3.out.trans (hb.mono HBw3.out.size))
  clear hb HBw3
  go_wp2_with fail
  refine Calls.mono (HK.out.cRF _) ?_
  rintro e w6 ⟨rfl, hw⟩
  obtain rfl : w5 = w6 := hw.symm
  clear hw
  go_wp2_with fail
  refine Calls.mono (HK.out.cD _ (Dec.tab_below HT.out HBw5.out)) ?_
  rintro e w7 ⟨rfl, hb⟩
  have HBw7 := Own.hid (HBw5.out.trans (hb.mono HBw5.out.size))
  clear hb HBw5
  go_wp2_with fail
  refine Calls.mono (HK.out.cRD _) ?_
  rintro e w8 ⟨rfl, hw⟩
  obtain rfl : w7 = w8 := hw.symm
  clear hw
  go_wp2_with fail
  refine Calls.mono (HK.out.cH _) ?_
  rintro e w9 ⟨rfl, hb⟩
  have HBw9 := Own.hid (HBw7.out.trans (hb.mono HBw7.out.size))
  clear hb HBw7
  go_wp2_with fail
  refine Calls.mono (HK.out.cU _) ?_
  rintro e w10 ⟨rfl, hb⟩
  have HBw10 := Own.hid (HBw9.out.trans (hb.mono HBw9.out.size))
  clear hb HBw9
  go_wp2_with fail
  refine Calls.mono (HK.out.dR _ a len cap (HC.out.below HBw10.out)) ?_
  rintro e w11 ⟨rfl, hb⟩
  have HBw11 := Own.hid (HBw10.out.trans (hb.mono HBw10.out.size))
  clear hb HBw10
  go_wp2_with fail
  refine Calls.mono (HK.out.cRV2 _) ?_
  rintro e w12 ⟨rfl, hw⟩
  obtain rfl : w11 = w12 := hw.symm
  clear hw
  go_wp2_with fail
  refine Calls.mono (HK.out.cV2 (by simpa using ej) _) ?_
  rintro e w13 ⟨rfl, hb⟩
  have HBw13 := Own.hid (HBw11.out.trans (hb.mono HBw11.out.size))
  clear hb HBw11
  go_wp2_with fail
  refine Calls.mono (HK.out.dR _ a len cap (HC.out.below HBw13.out)) ?_
  rintro e w14 ⟨rfl, hb⟩
  have HBw14 := Own.hid (HBw13.out.trans (hb.mono HBw13.out.size))
  clear hb HBw13
  go_wp2
  go_ret
  exact ⟨rfl, HBw14.out⟩

set_option maxRecDepth 100000 in
set_option maxHeartbeats 4000000 in
theorem core_f0 (zs : List Int) (n : Int) (tail S T H r : ByteArray) (x k y d z : Int) (j : Nat) (is : Bool) (K : Known zs n tail S T H r x k y d z j is false)
    (w : World) (a : Option Addr) (len cap : Nat) (C : Draw.Code w a len cap zs) (htab : Lib.TabIs Tryd.prog w "internal/strconv.uint64pow10" .u64 Lib.pow10Tab)
    (n0 : 72057594037927936 ≤ n) (eS : S.toList.isEmpty = true) (eT : T.toList.isEmpty = true) (ej : ((j : Int) == 0) = true) :
    Calls Tryd.prog 3 #[.slice a len cap] w fun e w' => e = .returned (.bool true) ∧ Below w.heap.size w w' := by
  have sS := K.sS
  have sT := K.sT
  have st := K.st
  have sr := K.sr
  have jr := K.jr
  have hlen := C.hb
  have HK := Own.hid K
  have HC := Own.hid C
  have HT := Own.hid htab
  clear K C htab
  go_enter Tryd.func3, Tryd.ntmps3
  go_wp2_with fail
  go_in
  go_wp2_with fail
  refine Calls.mono (HK.out.dV _ a len cap HC.out) ?_
  rintro e w1 ⟨rfl, hb⟩
  have HBw1 := Own.hid (hb)
  clear hb
  go_wp2_with fail
  refine Calls.mono (HK.out.dH _ a len cap (HC.out.below HBw1.out)) ?_
  rintro e w2 ⟨rfl, hb⟩
  have HBw2 := Own.hid (HBw1.out.trans (hb.mono HBw1.out.size))
  clear hb HBw1
  go_wp2_with fail
  refine Calls.mono (HK.out.cV _) ?_
  rintro e w3 ⟨rfl, hb⟩
  have HBw3 := Own.hid (HBw2.out.trans (hb.mono HBw2.out.size))
  clear hb HBw2
  go_wp2_with fail
  refine Calls.mono (HK.out.cRV _) ?_
  rintro e w4 ⟨rfl, hw⟩
  obtain rfl : w3 = w4 := hw.symm
  clear hw
  go_wp2_with fail
  refine Calls.mono (HK.out.cF _) ?_
  rintro e w5 ⟨rfl, hb⟩
  have HBw5 := Own.hid (HBw3.out.trans (hb.mono HBw3.out.size))
  clear hb HBw3
  go_wp2_with fail
  refine Calls.mono (HK.out.cRF _) ?_
  rintro e w6 ⟨rfl, hw⟩
  obtain rfl : w5 = w6 := hw.symm
  clear hw
  go_wp2_with fail
  refine Calls.mono (HK.out.cD _ (Dec.tab_below HT.out HBw5.out)) ?_
  rintro e w7 ⟨rfl, hb⟩
  have HBw7 := Own.hid (HBw5.out.trans (hb.mono HBw5.out.size))
  clear hb HBw5
  go_wp2_with fail
  refine Calls.mono (HK.out.cRD _) ?_
  rintro e w8 ⟨rfl, hw⟩
  obtain rfl : w7 = w8 := hw.symm
  clear hw
  go_wp2_with fail
  refine Calls.mono (HK.out.cH _) ?_
  rintro e w9 ⟨rfl, hb⟩
  have HBw9 := Own.hid (HBw7.out.trans (hb.mono HBw7.out.size))
  clear hb HBw7
  go_wp2_with fail
  refine Calls.mono (HK.out.cU _) ?_
  rintro e w10 ⟨rfl, hb⟩
  have HBw10 := Own.hid (HBw9.out.trans (hb.mono HBw9.out.size))
  clear hb HBw9
  go_wp2_with fail
  refine Calls.mono (HK.out.dR _ a len cap (HC.out.below HBw10.out)) ?_
  rintro e w11 ⟨rfl, hb⟩
  have HBw11 := Own.hid (HBw10.out.trans (hb.mono HBw10.out.size))
  clear hb HBw10
  go_wp2_with fail
  refine Calls.mono (HK.out.cRV2 _) ?_
  rintro e w12 ⟨rfl, hw⟩
  obtain rfl : w11 = w12 := hw.symm
  clear hw
  go_wp2
  go_ret
  exact ⟨rfl, HBw11.out⟩

set_option maxRecDepth 100000 in
set_option maxHeartbeats 4000000 in
theorem core_f1 (zs : List Int) (n : Int) (tail S T H r : ByteArray) (x k y d z : Int) (j : Nat) (is : Bool) (K : Known zs n tail S T H r x k y d z j is false)
    (w : World) (a : Option Addr) (len cap : Nat) (C : Draw.Code w a len cap zs) (htab : Lib.TabIs Tryd.prog w "internal/strconv.uint64pow10" .u64 Lib.pow10Tab)
    (n0 : 72057594037927936 ≤ n) (eS : S.toList.isEmpty = true) (eT : T.toList.isEmpty = true) (ej : ((j : Int) == 0) = false) :
    Calls Tryd.prog 3 #[.slice a len cap] w fun e w' => e = .returned (.bool true) ∧ Below w.heap.size w w' := by
  have sS := K.sS
  have sT := K.sT
  have st := K.st
  have sr := K.sr
  have jr := K.jr
  have hlen := C.hb
  have HK := Own.hid K
  have HC := Own.hid C
  have HT := Own.hid htab
  clear K C htab
  go_enter Tryd.func3, Tryd.ntmps3
  go_wp2_with fail
  go_in
  go_wp2_with fail
  refine Calls.mono (HK.out.dV _ a len cap HC.out) ?_
  rintro e w1 ⟨rfl, hb⟩
  have HBw1 := Own.hid (hb)
  clear hb
  go_wp2_with fail
  refine Calls.mono (HK.out.dH _ a len cap (HC.out.below HBw1.out)) ?_
  rintro e w2 ⟨rfl, hb⟩
  have HBw2 := Own.hid (HBw1.out.trans (hb.mono HBw1.out.size))
  clear hb HBw1
  go_wp2_with fail
  refine Calls.mono (HK.out.cV _) ?_
  rintro e w3 ⟨rfl, hb⟩
  have HBw3 := Own.hid (HBw2.out.trans (hb.mono HBw2.out.size))
  clear hb HBw2
  go_wp2_with fail
  refine Calls.mono (HK.out.cRV _) ?_
  rintro e w4 ⟨rfl, hw⟩
  obtain rfl : w3 = w4 := hw.symm
  clear hw
  go_wp2_with fail
  refine Calls.mono (HK.out.cF _) ?_
  rintro e w5 ⟨rfl, hb⟩
  have HBw5 := Own.hid (HBw3.out.trans (hb.mono HBw3.out.size))
  clear hb HBw3
  go_wp2_with fail
  refine Calls.mono (HK.out.cRF _) ?_
  rintro e w6 ⟨rfl, hw⟩
  obtain rfl : w5 = w6 := hw.symm
  clear hw
  go_wp2_with fail
  refine Calls.mono (HK.out.cD _ (Dec.tab_below HT.out HBw5.out)) ?_
  rintro e w7 ⟨rfl, hb⟩
  have HBw7 := Own.hid (HBw5.out.trans (hb.mono HBw5.out.size))
  clear hb HBw5
  go_wp2_with fail
  refine Calls.mono (HK.out.cRD _) ?_
  rintro e w8 ⟨rfl, hw⟩
  obtain rfl : w7 = w8 := hw.symm
  clear hw
  go_wp2_with fail
  refine Calls.mono (HK.out.cH _) ?_
  rintro e w9 ⟨rfl, hb⟩
  have HBw9 := Own.hid (HBw7.out.trans (hb.mono HBw7.out.size))
  clear hb HBw7
  go_wp2_with fail
  refine Calls.mono (HK.out.cU _) ?_
  rintro e w10 ⟨rfl, hb⟩
  have HBw10 := Own.hid (HBw9.out.trans (hb.mono HBw9.out.size))
  clear hb HBw9
  go_wp2_with fail
  refine Calls.mono (HK.out.dR _ a len cap (HC.out.below HBw10.out)) ?_
  rintro e w11 ⟨rfl, hb⟩
  have HBw11 := Own.hid (HBw10.out.trans (hb.mono HBw10.out.size))
  clear hb HBw10
  go_wp2_with fail
  refine Calls.mono (HK.out.cRV2 _) ?_
  rintro e w12 ⟨rfl, hw⟩
  obtain rfl : w11 = w12 := hw.symm
  clear hw
  go_wp2_with fail
  refine Calls.mono (HK.out.cV2 (by simpa using ej) _) ?_
  rintro e w13 ⟨rfl, hb⟩
  have HBw13 := Own.hid (HBw11.out.trans (hb.mono HBw11.out.size))
  clear hb HBw11
  go_wp2_with fail
  refine Calls.mono (HK.out.dR _ a len cap (HC.out.below HBw13.out)) ?_
  rintro e w14 ⟨rfl, hb⟩
  have HBw14 := Own.hid (HBw13.out.trans (hb.mono HBw13.out.size))
  clear hb HBw13
  go_wp2
  go_ret
  exact ⟨rfl, HBw14.out⟩

end Go.Proofs.YthpmjeledlpoaabDoor.Numbers
