import Derived.Test.YtcbifllencnbaaaDpA
import Derived.Test.YtcbifllencnbaaaChK
namespace Go.Proofs.Ytcbifllencnbaaa
open Go.RowKit
set_option linter.unusedVariables false
set_option linter.unusedSimpArgs false
theorem protoB_size (p : PD) (h : ProtoOk p) : (protoB p).size ≤ 1000000 := by
  have h1 : (codeB p).size ≤ p.code.n * 4 := cat_size _ fun i _ => Nat.le_of_eq (u4_size _)
  have h2 : (constsB p).size ≤ p.consts.n * 1010 := cat_size _ fun i hi => constB_size _ (by
    have := h.allConsts i hi
    unfold Plain at this
    omega)
  have h3 : (upsB p).size ≤ p.ups.n * 6 := cat_size _ fun i _ => upB_size _
  have h4 : (linesB p).size ≤ p.lines.n * 5 := cat_size _ fun i _ => pv_size _
  have h5 : (upNamesB p).size ≤ p.upNames.n * 1005 := cat_size _ fun i hi => by
    have := h.allUpNames i hi
    have := sizedB_size (p.upNames.f i)
    omega
  have h6 : (debugB p).size ≤ 200000 := by
    by_cases hb : Bare p
    · rw [debugB_bare hb, flagB_size]; omega
    · rw [debugB_full hb]
      simp only [ByteArray.size_append, flagB_size]
      have k1 := sizedB_size p.name
      have k2 := pvN_size p.lines.n
      have k3 := pvN_size p.upNames.n
      have := h.name
      have := h.lines
      have := h.upNames
      have := h.code2
      have := h.ups
      omega
  have k1 := pv_size p.params
  have k2 := pv_size p.regs
  have k3 := pvN_size p.code.n
  have k4 := pvN_size p.consts.n
  have k5 := pvN_size p.ups.n
  have k6 := pv_size p.kids
  have := h.code2
  have := h.consts
  have := h.ups
  unfold protoB
  simp only [ByteArray.size_append, flagB_size]
  omega
theorem chunkB_size (s : Sl PD) (h : Wf s) : (chunkB s).size ≤ 1000000000 := by
  have h1 : (cat (fun i => protoB (s.f i)) s.n).size ≤ s.n * 1000000 := cat_size _ fun i hi => protoB_size _ (h.each i hi)
  have := h.high
  unfold chunkB headB
  rw [ByteArray.size_append, strOfNums_size]
  simp only [List.length_cons, List.length_nil]
  omega
end Go.Proofs.Ytcbifllencnbaaa
