import Derived.Test.YtemldmjpanmdbaaGreatDoorP34
set_option linter.unusedVariables false
namespace Go.Proofs.YtemldmjpanmdbaaGreatDoor.Ev
open Go.RowKit
section
variable {E : Env} {K : CallF} {Y : YieldF} {N : Nat}
theorem cCode_ok (hE : EnvOk E) (hN : NmOk E) (hK : KOk E K) (hY : YOk E Y) (gK : KGe K) (gY : YGe Y) (hm : E.P.follows .mixedOrders = true) (hN256 : N ≤ 256) {fn : FuncId} :
    ∀ (m : Nat) (c : Code), CodeOk E N K Y c (cCode E fn N m c)
  | 0, c => fun rd fr S q hq => by cases hq
  | m + 1, c => by
    have ih := fun c => cCode_ok hE hN hK hY gK gY hm hN256 (fn := fn) m c
    cases c with
    | skip => exact code_skip
    | label l => exact code_label
    | region id A draw => exact code_region hE hN hK hY gK gY hm
    | seq a b => exact code_seq (ih a) (ih b)
    | cond x a b => exact code_cond (ih a) (ih b)
    | block id b => exact code_block (ih b)
    | loop b => exact code_loop (ih b) 5000
    | scope b => exact code_scope ih 5000
    | exit id => exact code_exit
    | goto l => exact code_goto
    | ret => exact code_ret
    | rangeFunc g ps a b => exact code_range hE hN hK gK hN256
    | refuse s => exact fun rd fr S q hq => by cases hq
end
end Go.Proofs.YtemldmjpanmdbaaGreatDoor.Ev
