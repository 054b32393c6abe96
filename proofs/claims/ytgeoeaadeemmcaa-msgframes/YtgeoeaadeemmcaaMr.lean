/- What Read of package msg does with any bytes. -/
import Derived.Test.YtgeoeaadeemmcaaMbA
import Derived.Test.YtgeoeaadeemmcaaMbB
import Derived.Test.YtgeoeaadeemmcaaMbC
import Derived.Test.YtgeoeaadeemmcaaMbD
import Derived.Test.YtgeoeaadeemmcaaMbE
import Derived.Test.YtgeoeaadeemmcaaMbF
import Derived.Test.YtgeoeaadeemmcaaMbG
namespace Go.Proofs.Ytgeoeaadeemmcaa
open Go.RowKit
set_option linter.unusedVariables false

theorem read_any (ao : Option Addr) (cap n : Nat) (zs : List Int) (w : World) (hrd : RdI w .u8 ao cap zs) (hn : zs.length = n) (hb : ∀ z ∈ zs, 0 ≤ z ∧ z < 256) (hlen : n ≤ 140737488355328) :
    Calls Try.prog 8 #[.slice ao n cap] w (ReadR zs w) := by
  by_cases h24 : n < 24
  · have hp : parse zs = none := by rw [parse, if_pos (by omega)]
    exact (read_short ao cap n w h24).mono fun x w' hx => readR_none hp hx.1 hx.2
  have hz7 := nAt_bd zs 7 hb
  cases hf : isFlg (nAt zs 6)
  · have hp : parse zs = none := by rw [parse, if_neg (by omega), if_pos hf]
    exact (read_head ao cap n zs w hrd hn hb (by omega) hlen (.inl hf)).mono fun x w' hx => readR_none hp hx.1 hx.2
  by_cases h7 : 24 < nAt zs 7
  · have hp : parse zs = none := by rw [parse, if_neg (by omega), if_neg (by rw [hf]; simp), if_pos h7]
    exact (read_head ao cap n zs w hrd hn hb (by omega) hlen (.inr h7)).mono fun x w' hx => readR_none hp hx.1 hx.2
  obtain ⟨q, hq⟩ := Int.eq_ofNat_of_zero_le hz7.1
  have h7q : (q : Int) ≤ 24 := by omega
  have hbd : ∀ z ∈ zs.drop 24, 0 ≤ z ∧ z < 256 := fun z hz => hb z (List.mem_of_mem_drop hz)
  cases hT : takeP q (zs.drop 24) with
  | none => exact read_D ao cap n q zs w hrd hn hb (by omega) hlen hf hq h7q hT
  | some y =>
    obtain ⟨ps, r⟩ := y
    by_cases hk : nAt zs 0 = 5
    · cases hV : takeV 4 r with
      | none => exact read_F1 ao cap n q zs w hrd hn hb (by omega) hlen hf hq h7q ps r hT hk hV
      | some u =>
        obtain ⟨v, s⟩ := u
        obtain ⟨v0, v1, v2, v3, rfl⟩ := list4 (takeV_some 4 (takeP_some q hbd hT).2.2.2 hV).2.1
        by_cases hs : s.length = 0
        · cases hR : rightB ⟨nAt zs 0, nAt zs 1, nAt zs 2, nAt zs 3, nAt zs 4, nAt zs 5, nAt zs 6 == 1, ps, v0, v1, v2, v3⟩
          · exact read_F3f ao cap n q zs w hrd hn hb (by omega) hlen hf hq h7q ps r hT hk v0 v1 v2 v3 s hV hs hR
          · exact read_F3t ao cap n q zs w hrd hn hb (by omega) hlen hf hq h7q ps r hT hk v0 v1 v2 v3 s hV hs hR
        · exact read_F2 ao cap n q zs w hrd hn hb (by omega) hlen hf hq h7q ps r hT hk v0 v1 v2 v3 s hV s.length rfl (by omega)
    · by_cases hr : r.length = 0
      · cases hR : rightB (mg0 zs ps)
        · exact read_E2f ao cap n q zs w hrd hn hb (by omega) hlen hf hq h7q ps r hT hk hr hR
        · exact read_E2t ao cap n q zs w hrd hn hb (by omega) hlen hf hq h7q ps r hT hk hr hR
      · exact read_E1 ao cap n q zs w hrd hn hb (by omega) hlen hf hq h7q ps r hT hk r.length rfl (by omega)

end Go.Proofs.Ytgeoeaadeemmcaa
